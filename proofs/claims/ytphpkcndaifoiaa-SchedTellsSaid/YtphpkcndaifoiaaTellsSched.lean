/-
  SchedTells returns true, whatever the arguments and memory are. No condition.
-/
import Derived.Test.YtphpkcndaifoiaaWhenWorks2
import Derived.Test.YtphpkcndaifoiaaWhenRefSpent
import Derived.Test.YtphpkcndaifoiaaWhenParts
import Derived.Test.YtphpkcndaifoiaaWhenOpen
import Derived.Test.YtphpkcndaifoiaaWhenTwo
namespace Go.Proofs.Ytphpkcndaifoiaa.schedTells
open Go.ChangeShapes Go.WideShapes Go.ChangeAt Go.RowKit Go.Sort Go.Proofs.Ytphpkcndaifoiaa.Mem Go.Proofs.Ytphpkcndaifoiaa.Route Go.Proofs.Ytphpkcndaifoiaa.When
set_option linter.unusedVariables false

/-- What stays from the head of the loop on: a vehicle, three rows, three lists. -/
structure TellsAt (w0 : World) (n7 n10 n11 : Nat) (v : Vh) (vo vl vr vt : Value) (lo l : List (Int × Int)) (lr t : List Rq) (W : World) : Prop where
  veh : At W n7 30 #[.int .i64 v.hx, .int .i64 v.hy, .int .i64 v.cp, .int .i64 v.st, .int .i64 v.en]
  rows : At W n10 33 #[vo, vl, vo]
  lists : At W n11 34 #[vr, vr, vt]
  ro : Row W.heap.size W vo lo
  rl : Row W.heap.size W vl l
  qr : Rqs W.heap.size W vr lr
  qt : Rqs W.heap.size W vt t
  below : Below w0.heap.size w0 W
theorem TellsAt.on {w0 : World} {n7 n10 n11 : Nat} {v : Vh} {vo vl vr vt : Value} {lo l : List (Int × Int)} {lr t : List Rq} {W W' : World} (h : TellsAt w0 n7 n10 n11 v vo vl vr vt lo l lr t W) (hb : Below W.heap.size W W') : TellsAt w0 n7 n10 n11 v vo vl vr vt lo l lr t W' :=
  ⟨h.veh.keep hb h.veh.inside, h.rows.keep hb h.rows.inside, h.lists.keep hb h.lists.inside, h.ro.on hb, h.rl.on hb, h.qr.on hb, h.qt.on hb, h.below.trans (hb.mono h.below.size)⟩
/-- The k-th row and list. -/
def rowV (k : Nat) (vo vl : Value) : Value := if k = 1 then vl else vo
def rowL (k : Nat) (lo l : List (Int × Int)) : List (Int × Int) := if k = 1 then l else lo
def lstV (k : Nat) (vr vt : Value) : Value := if k = 2 then vt else vr
def lstL (k : Nat) (lr t : List Rq) : List Rq := if k = 2 then t else lr
theorem TellsAt.pick {w0 : World} {n7 n10 n11 : Nat} {v : Vh} {vo vl vr vt : Value} {lo l : List (Int × Int)} {lr t : List Rq} {W : World} (h : TellsAt w0 n7 n10 n11 v vo vl vr vt lo l lr t W) {k : Nat} (hk : k < 3) :
    W.cell? ⟨n10, k, none⟩ = some (rowV k vo vl) ∧ W.cell? ⟨n11, k, none⟩ = some (lstV k vr vt) ∧ Row W.heap.size W (rowV k vo vl) (rowL k lo l) ∧ Rqs W.heap.size W (lstV k vr vt) (lstL k lr t) := by
  have r := h.rows.cell k
  have s := h.lists.cell k
  obtain rfl | rfl | rfl : k = 0 ∨ k = 1 ∨ k = 2 := by omega
  · exact ⟨by simpa [rowV] using r, by simpa [lstV] using s, h.ro, h.qr⟩
  · exact ⟨by simpa [rowV] using r, by simpa [lstV] using s, h.rl, h.qr⟩
  · exact ⟨by simpa [rowV] using r, by simpa [lstV] using s, h.ro, h.qt⟩

set_option maxRecDepth 100000 in
set_option maxHeartbeats 1500000 in
theorem walk (xb : Option Addr) (Nb cb : Nat) (bs : List Int) (a b c : Int) (hby : ∀ x ∈ bs, 0 ≤ x ∧ x < 256) (ha : 0 ≤ a ∧ a < 256) (hb : 0 ≤ b ∧ b < 256) (vl vt : Value) (l : List (Int × Int)) (t : List Rq) (hnum : Nums l) (w : World)
    (hD : RowB w.heap.size w (.slice xb Nb cb) 1 (bs.map byV)) (hL : Row w.heap.size w vl l) (hT : Rqs w.heap.size w vt t) :
    Calls Try.prog 3 #[.agg #[.slice xb Nb cb, .int .u8 a, .int .u8 b, .int .i64 c], vl, vt] w fun e w' => e = .returned (.bool true) ∧ Below w.heap.size w w' := by
  have hb0 : Below w.heap.size w (w.alloc (.cells #[.slice xb Nb cb, .int .u8 a, .int .u8 b, .int .i64 c] 24)) := (Below.refl _ _).alloc (Nat.le_refl _) _
  have hp := parts_any xb Nb cb bs a b c _ (RowB.on hD hb0) hby ha hb
  have hL0 := hL.on hb0
  have hT0 := hT.on hb0
  obtain ⟨xl, Nl, capl, rfl, hNl, hl0, hlc1, hlc2⟩ := hL.opened
  obtain ⟨xt, Nt, capt, rfl, hNt0, htc1, htc2, ht0⟩ := hT.opened
  unfold maxLen at hlc2 htc2
  have hNt := Lib.hid hNt0
  have htcap : Hid (xt = none → capt = 0) := Lib.hid (fun e => by
    obtain ⟨x', cap', e1, _, _, h0, _⟩ := hT
    simp only [Value.slice.injEq] at e1
    obtain ⟨rfl, _, rfl⟩ := e1
    exact (h0 e).2)
  have hnum' := Lib.hid hnum
  have hL0' := Lib.hid hL0
  have hT0' := Lib.hid hT0
  clear hD hby ha hb hL hT hNt0 ht0 hl0 hnum hL0 hT0
  go_enter Try.func3, Try.ntmps3
  go_wp2_with fail
  refine hp.mono ?_
  clear hp
  rintro e w2 ⟨⟨v, uo, ur, lo, lr, rfl, hv, hro, hsm, hlo, hqr, hlr, hch⟩, hb2⟩
  obtain ⟨xo, No, co, rfl, hNo, _, hoc1, hoc2⟩ := hro.opened
  obtain ⟨xr, Nr, cr, rfl, hNr0, hrc1, hrc2, _⟩ := hqr.opened
  have hNr := Lib.hid hNr0
  have hbA := hb0.trans (hb2.mono hb0.size)
  have hL2 := Lib.hid (hL0'.out.on hb2)
  have hT2 := Lib.hid (hT0'.out.on hb2)
  have hro' := Lib.hid hro
  have hqr' := Lib.hid hqr
  have hsm' := Lib.hid hsm
  have hlo' := Lib.hid hlo
  have hbA' := Lib.hid hbA
  clear hb0 hb2 hL0' hT0' hro hqr hsm hlo hNr0 hbA hv hlr hch
  obtain ⟨M, hM1, hM2, hM3⟩ : ∃ M : Nat, min (Nl : Int) 30 = (M : Int) ∧ M ≤ Nl ∧ M ≤ 30 := ⟨min Nl 30, by omega, by omega, by omega⟩
  obtain ⟨K, hK1, hK2, hK3⟩ : ∃ K : Nat, min (Nt : Int) 30 = (K : Int) ∧ K ≤ Nt ∧ K ≤ 30 := ⟨min Nt 30, by omega, by omega, by omega⟩
  have hMc : M ≤ capl := by omega
  have hKc : K ≤ capt := by omega
  go_upto_region 2 with fail
  go_quiet (fail)
  have hdr : Below w2.heap.size w2 ((w2.alloc (.cells #[.int .i64 v.hx, .int .i64 v.hy, .int .i64 v.cp, .int .i64 v.st, .int .i64 v.en] 30)).drewN nq) := Place.below_drewN ((Below.refl _ _).alloc (Nat.le_refl _) _) nq
  have hV3 : At ((w2.alloc (.cells #[.int .i64 v.hx, .int .i64 v.hy, .int .i64 v.cp, .int .i64 v.st, .int .i64 v.en] 30)).drewN nq) w2.heap.size 30 #[.int .i64 v.hx, .int .i64 v.hy, .int .i64 v.cp, .int .i64 v.st, .int .i64 v.en] := At.drewN (At.new _ _ _) nq
  have hL3 := Lib.hid (hL2.out.on hdr)
  have hT3 := Lib.hid (hT2.out.on hdr)
  have hro3 := Lib.hid (hro'.out.on hdr)
  have hqr3 := Lib.hid (hqr'.out.on hdr)
  have hB3 := Lib.hid (hbA'.out.trans (hdr.mono hbA'.out.size))
  generalize (w2.alloc (.cells #[.int .i64 v.hx, .int .i64 v.hy, .int .i64 v.cp, .int .i64 v.st, .int .i64 v.en] 30)).drewN nq = w3 at *
  obtain ⟨n7, hn7⟩ : ∃ n, w2.heap.size = n := ⟨_, rfl⟩
  rw [hn7] at hV3 ⊢
  obtain ⟨n10, hn10⟩ : ∃ n, w3.heap.size = n := ⟨_, rfl⟩
  obtain ⟨w4, hw4⟩ : ∃ w4, (w3.alloc (.cells #[.slice xo No co, .slice xl M capl, .slice xo No co] 33)).alloc (.cells #[.slice xr Nr cr, .slice xr Nr cr, .slice xt K capt] 34) = w4 := ⟨_, rfl⟩
  have hS4 : Hid (TellsAt w n7 n10 (n10 + 1) v (.slice xo No co) (.slice xl M capl) (.slice xr Nr cr) (.slice xt K capt) lo (l.take M) lr (t.take K) w4) := Lib.hid (by
    have hb : Below w3.heap.size w3 w4 := by rw [← hw4]; exact ((Below.refl _ _).alloc (Nat.le_refl _) _).alloc (by simp) _
    refine ⟨hV3.keep hb hV3.inside, ?_, ?_, hro3.out.on hb, (hL3.out.cutTo hNl.out hM2).on hb, hqr3.out.on hb, ?_, hB3.out.trans (hb.mono hB3.out.size)⟩
    · rw [← hw4]; exact (At.new_ _ _ _ hn10.symm).alloc _
    · rw [← hw4]; exact At.new_ _ _ _ (by simp [hn10])
    · have := cutTo (k := K) hT3.out (by rw [List.length_map]; exact hNt.out) hK2 capt hKc (by unfold maxLen; omega) (fun e => by have := htcap.out e; exact this)
      rw [← List.map_take] at this
      exact RowB.on this hb)
  have hlenL : Hid ((l.take M).length ≤ 30) := Lib.hid (by rw [List.length_take]; omega)
  have hnumL : Hid (Nums (l.take M)) := Lib.hid (fun s hs => hnum'.out s (List.mem_of_mem_take hs))
  have hw4' := Lib.hid hw4
  have hn10' := Lib.hid hn10
  clear hdr hV3 hL3 hT3 hro3 hqr3 hB3 hn7 hn10 hw4 hL2 hT2 hro' hqr' hbA'
  go_wp2_with fail
  rw [hw4'.out]
  rw [hn10'.out]
  obtain ⟨n11, hn11⟩ : ∃ n, n10 + 1 = n := ⟨_, rfl⟩
  rw [hn11] at hS4 ⊢
  clear hw4' hn10' hn11
  go_loopw [12] (fun i wr => ∃ k : Nat, i = .int .i64 k ∧ k ≤ 3 ∧ TellsAt w n7 n10 n11 v (.slice xo No co) (.slice xl M capl) (.slice xr Nr cr) (.slice xt K capt) lo (l.take M) lr (t.take K) wr) (fun i _ => 3 - (intOf i).toNat)
  case atStart => exact ⟨0, rfl, by omega, hS4.out⟩
  case round =>
    obtain ⟨k, rfl, hk, hS⟩ := hrel
    clear hS4
    by_cases hlt : k < 3
    · skip
      obtain ⟨_, _, hrow, hlst⟩ := hS.pick hlt
      obtain ⟨x, N, cc, hRe, hN, _, hcc1, hcc2⟩ := hrow.opened
      obtain ⟨y, M2, dd, hQe, hM20, hdd1, hdd2, _⟩ := hlst.opened
      obtain ⟨LL, hLL⟩ : ∃ LL, rowL k lo (l.take M) = LL := ⟨_, rfl⟩
      obtain ⟨QQ, hQQ⟩ : ∃ QQ, lstL k lr (t.take K) = QQ := ⟨_, rfl⟩
      have hall : Hid (∀ W, TellsAt w n7 n10 n11 v (.slice xo No co) (.slice xl M capl) (.slice xr Nr cr) (.slice xt K capt) lo (l.take M) lr (t.take K) W → W.cell? ⟨n10, k, none⟩ = some (.slice x N cc) ∧ W.cell? ⟨n11, k, none⟩ = some (.slice y M2 dd) ∧ Row W.heap.size W (.slice x N cc) LL ∧ Rqs W.heap.size W (.slice y M2 dd) QQ) := Lib.hid (fun W h => by
        have := h.pick hlt
        rw [hRe, hQe, hLL, hQQ] at this
        exact this)
      have hgood : Hid (LL.length ≤ 30 ∧ Nums LL) := Lib.hid (by
        rw [← hLL]
        unfold rowL
        split
        · exact ⟨hlenL.out, hnumL.out⟩
        · exact ⟨by have := hlo'.out; omega, hsm'.out.nums⟩)
      rw [hLL] at hN
      have hS' := Lib.hid hS
      have hl6 : Hid (LL.length ≤ 1000000) := Lib.hid (by have := hgood.out.1; omega)
      have hN30 : N ≤ 30 := by rw [← hN.out]; exact hgood.out.1
      clear hrow hlst hRe hQe hLL hQQ hM20 hS
      obtain ⟨H, hH⟩ : ∃ H, homeT v LL QQ = H := ⟨_, rfl⟩
      obtain ⟨E, hE⟩ : ∃ E, errT v LL QQ = E := ⟨_, rfl⟩
      obtain ⟨TL, hTL⟩ : ∃ TL, timesL v LL QQ = TL := ⟨_, rfl⟩
      obtain ⟨Y, hY⟩ : ∃ Y, wayT v LL QQ = Y := ⟨_, rfl⟩
      obtain ⟨A, hA⟩ : ∃ A, waitT v LL QQ = A := ⟨_, rfl⟩
      obtain ⟨Z, hZ⟩ : ∃ Z, servT v LL QQ = Z := ⟨_, rfl⟩
      have cA : Hid (∀ W, TellsAt w n7 n10 n11 v (.slice xo No co) (.slice xl M capl) (.slice xr Nr cr) (.slice xt K capt) lo (l.take M) lr (t.take K) W → Calls Try.prog 8 #[.agg #[.int .i64 v.hx, .int .i64 v.hy, .int .i64 v.cp, .int .i64 v.st, .int .i64 v.en], .slice x N cc, .slice y M2 dd] W fun e w' => (∃ x1 N1 c1, e = .returned (.tuple #[.slice x1 N1 c1, .int .i64 H, .int .i64 E]) ∧ Tms w'.heap.size w' (.slice x1 N1 c1) TL) ∧ Below W.heap.size W w') := Lib.hid (fun W h => by
        obtain ⟨_, _, h1, h2⟩ := hall.out W h
        have := Times_any v _ _ LL QQ hl6.out hgood.out.2 W h1 h2
        rw [hH, hE, hTL] at this
        exact this.mono fun e w' ⟨⟨u, e1, e2⟩, e3⟩ => by
          obtain ⟨x1, N1, c1, rfl, _⟩ := e2.opened
          exact ⟨⟨x1, N1, c1, e1, e2⟩, e3⟩)
      have cB : Hid (∀ W, TellsAt w n7 n10 n11 v (.slice xo No co) (.slice xl M capl) (.slice xr Nr cr) (.slice xt K capt) lo (l.take M) lr (t.take K) W → Calls Try.prog 9 #[.agg #[.int .i64 v.hx, .int .i64 v.hy, .int .i64 v.cp, .int .i64 v.st, .int .i64 v.en], .slice x N cc, .slice y M2 dd] W fun e w' => (∃ x1 N1 c1, e = .returned (.tuple #[.slice x1 N1 c1, .int .i64 H, .int .i64 E]) ∧ Tms w'.heap.size w' (.slice x1 N1 c1) TL) ∧ Below W.heap.size W w') := Lib.hid (fun W h => by
        obtain ⟨_, _, h1, h2⟩ := hall.out W h
        have := refTimes_any v _ _ LL QQ hl6.out hgood.out.2 W h1 h2
        rw [hH, hE, hTL] at this
        exact this.mono fun e w' ⟨⟨u, e1, e2⟩, e3⟩ => by
          obtain ⟨x1, N1, c1, rfl, _⟩ := e2.opened
          exact ⟨⟨x1, N1, c1, e1, e2⟩, e3⟩)
      have cC : Hid (∀ W, TellsAt w n7 n10 n11 v (.slice xo No co) (.slice xl M capl) (.slice xr Nr cr) (.slice xt K capt) lo (l.take M) lr (t.take K) W → Calls Try.prog 11 #[.agg #[.int .i64 v.hx, .int .i64 v.hy, .int .i64 v.cp, .int .i64 v.st, .int .i64 v.en], .slice x N cc, .slice y M2 dd] W fun e w' => e = .returned (.tuple #[.int .i64 Y, .int .i64 A, .int .i64 Z, .int .i64 E]) ∧ Below W.heap.size W w') := Lib.hid (fun W h => by
        obtain ⟨_, _, h1, h2⟩ := hall.out W h
        have := Spent_any v _ _ LL QQ hl6.out hgood.out.2 W h1 h2
        rw [hY, hA, hZ, hE] at this
        exact this)
      have cD : Hid (∀ W, TellsAt w n7 n10 n11 v (.slice xo No co) (.slice xl M capl) (.slice xr Nr cr) (.slice xt K capt) lo (l.take M) lr (t.take K) W → Calls Try.prog 12 #[.agg #[.int .i64 v.hx, .int .i64 v.hy, .int .i64 v.cp, .int .i64 v.st, .int .i64 v.en], .slice x N cc, .slice y M2 dd] W fun e w' => e = .returned (.tuple #[.int .i64 Y, .int .i64 A, .int .i64 Z, .int .i64 E]) ∧ Below W.heap.size W w') := Lib.hid (fun W h => by
        obtain ⟨_, _, h1, h2⟩ := hall.out W h
        have := refSpent_any v _ _ LL QQ hl6.out hgood.out.2 W h1 h2
        rw [hY, hA, hZ, hE] at this
        exact this)
      clear hH hE hTL hY hA hZ
      have mk : Hid (∀ W, TellsAt w n7 n10 n11 v (.slice xo No co) (.slice xl M capl) (.slice xr Nr cr) (.slice xt K capt) lo (l.take M) lr (t.take K) W → W.cell? ⟨n7, 0, none⟩ = some (.int .i64 v.hx) ∧ W.cell? ⟨n7, 1, none⟩ = some (.int .i64 v.hy) ∧ W.cell? ⟨n7, 2, none⟩ = some (.int .i64 v.cp) ∧ W.cell? ⟨n7, 3, none⟩ = some (.int .i64 v.st) ∧ W.cell? ⟨n7, 4, none⟩ = some (.int .i64 v.en) ∧ W.cell? ⟨n10, k, none⟩ = some (.slice x N cc) ∧ W.cell? ⟨n11, k, none⟩ = some (.slice y M2 dd) ∧ ((TellsAt w n7 n10 n11 v (.slice xo No co) (.slice xl M capl) (.slice xr Nr cr) (.slice xt K capt) lo (l.take M) lr (t.take K) W))) := Lib.hid (fun W h => by
        obtain ⟨h1, h2, _, _⟩ := hall.out W h
        exact ⟨by simpa using h.veh.cell 0, by simpa using h.veh.cell 1, by simpa using h.veh.cell 2, by simpa using h.veh.cell 3, by simpa using h.veh.cell 4, h1, h2, h⟩)
      obtain ⟨v0, v1, v2, v3, v4, e0, e1, hS0⟩ := mk.out wr hS'.out
      have hSd := Lib.hid (TellsAt.on hS'.out (Below.drew (Below.refl _ _)))
      go_upto_region 8 with fail
      go_region_held3 (fun w' => w'.cell? ⟨n7, 0, none⟩ = some (.int .i64 v.hx) ∧ w'.cell? ⟨n7, 1, none⟩ = some (.int .i64 v.hy) ∧ w'.cell? ⟨n7, 2, none⟩ = some (.int .i64 v.cp) ∧ w'.cell? ⟨n7, 3, none⟩ = some (.int .i64 v.st) ∧ w'.cell? ⟨n7, 4, none⟩ = some (.int .i64 v.en) ∧ w'.cell? ⟨n10, k, none⟩ = some (.slice x N cc) ∧ w'.cell? ⟨n11, k, none⟩ = some (.slice y M2 dd) ∧ ((TellsAt w n7 n10 n11 v (.slice xo No co) (.slice xl M capl) (.slice xr Nr cr) (.slice xt K capt) lo (l.take M) lr (t.take K) w')))
        (first | exact mk.out _ hSd.out | exact mk.out _ (TellsAt.on hSd.out hb5))
        (first | (go_at_call 8; refine (cA.out _ hSd.out).mono ?_; rintro e w5 ⟨⟨x1, N1, c1, rfl, hu1⟩, hb5⟩))
      have hS5 := Lib.hid (TellsAt.on hSd.out hb5)
      have hS5d := Lib.hid (TellsAt.on hS5.out (Below.drew (Below.refl _ _)))
      have hb5' := Lib.hid hb5
      have hu1' := Lib.hid hu1
      try clear_value w5
      clear hb5 hu1 hSd v0 v1 v2 v3 v4 e0 e1 hS0
      obtain ⟨v0, v1, v2, v3, v4, e0, e1, hS0⟩ := mk.out w5 hS5.out
      go_upto_region 9 with fail
      go_region_held3 (fun w' => w'.cell? ⟨n7, 0, none⟩ = some (.int .i64 v.hx) ∧ w'.cell? ⟨n7, 1, none⟩ = some (.int .i64 v.hy) ∧ w'.cell? ⟨n7, 2, none⟩ = some (.int .i64 v.cp) ∧ w'.cell? ⟨n7, 3, none⟩ = some (.int .i64 v.st) ∧ w'.cell? ⟨n7, 4, none⟩ = some (.int .i64 v.en) ∧ w'.cell? ⟨n10, k, none⟩ = some (.slice x N cc) ∧ w'.cell? ⟨n11, k, none⟩ = some (.slice y M2 dd) ∧ ((TellsAt w n7 n10 n11 v (.slice xo No co) (.slice xl M capl) (.slice xr Nr cr) (.slice xt K capt) lo (l.take M) lr (t.take K) w')))
        (first | exact mk.out _ hS5d.out | exact mk.out _ (TellsAt.on hS5d.out hb7))
        (first | (go_at_call 9; refine (cB.out _ hS5d.out).mono ?_; rintro e w7 ⟨⟨x2, N2, c2, rfl, hu2⟩, hb7⟩))
      have hS7 := Lib.hid (TellsAt.on hS5d.out hb7)
      have hu17 := Lib.hid (hu1'.out.on ((Below.drew (Below.refl _ _)).trans (hb7.mono (by simp))))
      have hu27 := Lib.hid hu2
      clear hb7 hu2 hu1' hS5d v0 v1 v2 v3 v4 e0 e1 hS0
      have hc := Same_any _ _ TL TL w7 hu17.out hu27.out
      rw [decide_eq_true rfl] at hc
      go_wp2_with fail
      refine hc.mono ?_
      clear hc
      rintro e w8 ⟨rfl, hb8⟩
      have hS8 := Lib.hid (TellsAt.on hS7.out hb8)
      clear hb8 hu17 hu27 hS7
      obtain ⟨v0, v1, v2, v3, v4, e0, e1, hS0⟩ := mk.out w8 hS8.out
      have kv0 := cell_regrown v0
      have kv1 := cell_regrown v1
      have kv2 := cell_regrown v2
      have kv3 := cell_regrown v3
      have kv4 := cell_regrown v4
      have ke0 := cell_regrown e0
      have ke1 := cell_regrown e1
      have kT := fun d os => Calls.regrown_of (cC.out (grow (redrawn w8 d) os) (TellsAt.on hS8.out (below_regrown w8 d os)))
      go_upto_region 12 with fail
      refine wp_region_quiet_below (by kernel_rfl) (by kernel_rfl) ?_
      repeat (go_big_quiet_step (first | with_reducible exact kT _ _))
      refine wpQuiet_nil ?_
      intro _ hw'
      obtain ⟨⟨dq, osq⟩, hw''⟩ := hw'
      subst hw''
      have hS9 := Lib.hid (TellsAt.on hS8.out (below_regrown w8 dq osq))
      generalize grow (redrawn w8 dq) osq = w9 at *
      clear kT kv0 kv1 kv2 kv3 kv4 ke0 ke1 v0 v1 v2 v3 v4 e0 e1 hS0
      obtain ⟨v0, v1, v2, v3, v4, e0, e1, hS0⟩ := mk.out w9 hS9.out
      have kv0 := cell_regrown v0
      have kv1 := cell_regrown v1
      have kv2 := cell_regrown v2
      have kv3 := cell_regrown v3
      have kv4 := cell_regrown v4
      have ke0 := cell_regrown e0
      have ke1 := cell_regrown e1
      have kT := fun d os => Calls.regrown_of (cD.out (grow (redrawn w9 d) os) (TellsAt.on hS9.out (below_regrown w9 d os)))
      go_upto_region 13 with fail
      refine wp_region_quiet_below (by kernel_rfl) (by kernel_rfl) ?_
      repeat (go_big_quiet_step (first | with_reducible exact kT _ _))
      refine wpQuiet_nil ?_
      intro _ hw'
      obtain ⟨⟨dq, osq⟩, hw''⟩ := hw'
      subst hw''
      have hS10 := Lib.hid (TellsAt.on hS9.out (below_regrown w9 dq osq))
      generalize grow (redrawn w9 dq) osq = w10 at *
      clear kT kv0 kv1 kv2 kv3 kv4 ke0 ke1 v0 v1 v2 v3 v4 e0 e1 hS0
      obtain ⟨wo, rfl⟩ : ∃ wo, wo = wr := ⟨_, rfl⟩
      obtain ⟨e0, e1, _, _⟩ := hall.out w10 hS10.out
      clear mk cA cB cC cD hS' hS5 hb5' hS8 hS9
      go_wp2
      clear e0 e1
      go_loopw [27] (fun i2 wr2 => ∃ j : Nat, i2 = .int .i64 j ∧ j ≤ N ∧ TellsAt w n7 n10 n11 v (.slice xo No co) (.slice xl M capl) (.slice xr Nr cr) (.slice xt K capt) lo (l.take M) lr (t.take K) wr2) (fun i2 _ => N - (intOf i2).toNat)
      case atStart => exact ⟨0, rfl, Nat.zero_le _, hS10.out⟩
      case round =>
        obtain ⟨j, rfl, hj, hSj⟩ := hrel
        clear hS10
        obtain ⟨e0, e1, hrow, hlst⟩ := hall.out wr hSj
        have hS18 := Lib.hid hSj
        clear hSj
        by_cases hj2 : j < N
        · skip
          obtain ⟨⟨s1, s2⟩, hs⟩ : ∃ s, LL[j]? = some s := ⟨LL[j]'(by rw [hN.out]; exact hj2), List.getElem?_eq_getElem _⟩
          obtain ⟨g, o, rfl, hg, _, _⟩ := Row.stop hrow hs
          clear hrow hlst
          have hst : Hid (∀ W, TellsAt w n7 n10 n11 v (.slice xo No co) (.slice xl M capl) (.slice xr Nr cr) (.slice xt K capt) lo (l.take M) lr (t.take K) W → W.cell? ⟨n10, k, none⟩ = some (.slice (some ⟨g, o, none⟩) N cc) ∧ W.cell? ⟨n11, k, none⟩ = some (.slice y M2 dd) ∧ W.cell? ⟨g, o + j * 2, none⟩ = some (.int .i64 s1) ∧ W.cell? ⟨g, o + j * 2 + 1, none⟩ = some (.int .i64 s2) ∧ g < W.heap.size ∧ Rqs W.heap.size W (.slice y M2 dd) QQ) := Lib.hid (fun W h => by
            obtain ⟨h1, h2, h3, h4⟩ := hall.out W h
            obtain ⟨g', o', eg, hg', c0, c1⟩ := Row.stop h3 hs
            simp only [Option.some.injEq, Addr.mk.injEq] at eg
            obtain ⟨rfl, rfl, _⟩ := eg
            exact ⟨h1, h2, c0, c1, hg', h4⟩)
          obtain ⟨u, hu⟩ : ∃ u, visV QQ (s1, s2) = u := ⟨_, rfl⟩
          obtain ⟨b0, hb0⟩ : ∃ b0, visB QQ (s1, s2) = b0 := ⟨_, rfl⟩
          have kP : Hid (∀ W, TellsAt w n7 n10 n11 v (.slice xo No co) (.slice xl M capl) (.slice xr Nr cr) (.slice xt K capt) lo (l.take M) lr (t.take K) W → Calls Try.prog 13 #[.agg #[.int .i64 s1, .int .i64 s2], .slice y M2 dd] W fun e w' => e = .returned (.tuple #[.agg #[.int .i64 u.px, .int .i64 u.py], .bool b0]) ∧ Below W.heap.size W w') := Lib.hid (fun W h => by
            have := Place_any s1 s2 _ QQ W (hst.out W h).2.2.2.2.2
            rw [hu, hb0] at this
            exact this)
          have kQ : Hid (∀ W, TellsAt w n7 n10 n11 v (.slice xo No co) (.slice xl M capl) (.slice xr Nr cr) (.slice xt K capt) lo (l.take M) lr (t.take K) W → Calls Try.prog 14 #[.agg #[.int .i64 s1, .int .i64 s2], .slice y M2 dd] W fun e w' => e = .returned (.tuple #[.agg #[.int .i64 u.px, .int .i64 u.py], .bool b0]) ∧ Below W.heap.size W w') := Lib.hid (fun W h => by
            have := refPlace_any s1 s2 _ QQ W (hst.out W h).2.2.2.2.2
            rw [hu, hb0] at this
            exact this)
          have kW : Hid (∀ W, TellsAt w n7 n10 n11 v (.slice xo No co) (.slice xl M capl) (.slice xr Nr cr) (.slice xt K capt) lo (l.take M) lr (t.take K) W → Calls Try.prog 15 #[.agg #[.int .i64 s1, .int .i64 s2], .slice y M2 dd] W fun e w' => e = .returned (.tuple #[.agg #[.int .i64 u.we, .int .i64 u.wl], .bool b0]) ∧ Below W.heap.size W w') := Lib.hid (fun W h => by
            have := Window_any s1 s2 _ QQ W (hst.out W h).2.2.2.2.2
            rw [hu, hb0] at this
            exact this)
          have kR : Hid (∀ W, TellsAt w n7 n10 n11 v (.slice xo No co) (.slice xl M capl) (.slice xr Nr cr) (.slice xt K capt) lo (l.take M) lr (t.take K) W → Calls Try.prog 16 #[.agg #[.int .i64 s1, .int .i64 s2], .slice y M2 dd] W fun e w' => e = .returned (.tuple #[.agg #[.int .i64 u.we, .int .i64 u.wl], .bool b0]) ∧ Below W.heap.size W w') := Lib.hid (fun W h => by
            have := refWindow_any s1 s2 _ QQ W (hst.out W h).2.2.2.2.2
            rw [hu, hb0] at this
            exact this)
          clear hu hb0 hs hg
          obtain ⟨Q, hQ1, hQ2⟩ : ∃ Q, Q ≤ wr.heap.size ∧ wr.heap.size ≤ Q := ⟨_, Nat.le_refl _, Nat.le_refl _⟩
          go_upto_region 19 with fail
          refine Sched.wp_region_sched 15 (fun W V => Below Q W V) (VT [.int .i64 k, .pointer (some ⟨n10, k, none⟩), .slice (some ⟨g, o, none⟩) N cc, .int .i64 j, .pointer (some ⟨g, o + j * 2, none⟩), .agg #[.int .i64 s1, .int .i64 s2], .int .i64 k, .pointer (some ⟨n11, k, none⟩), .slice y M2 dd, .tuple #[.agg #[.int .i64 u.px, .int .i64 u.py], .bool b0], .tuple #[.agg #[.int .i64 u.px, .int .i64 u.py], .bool b0], .agg #[.int .i64 u.px, .int .i64 u.py], .bool b0]) (ZT Q 28 u.px u.py) (by kernel_rfl) (by kernel_rfl) (by kernel_rfl) (fun h1 h2 => h1.trans h2) (fun h1 _ => h1) (Below.refl _ _).drew (fun ys => ZT.start _ _ _ _ _ _) (Sched.StepsA.steps (by kernel_rfl) ?hS19) ?hQ19
          case hS19 =>
            simp only [List.take_succ_cons, List.take_zero]
            refine ⟨?_, ?_, ?_, ?_, ?_, ?_, ?_, ?_, ?_, ?_, ?_, ?_, ?_, ?_, ?_, trivial⟩
            · intro ys done W aa hE hn hF hD hZ hG hO
              replace hE : Below Q wr W := hE
              have hsz := Nat.le_trans hQ1 hE.size
              have o12 := hO 12 (by kernel_rfl)
              replace o12 : aa.tmps[12]? = some (.int .i64 k) := o12
              go_wp2_with fail
              exact ⟨_, rfl, Below.refl _ _, fun u h => Option.some.inj h, hZ.light (Below.refl _ _) (by decide)⟩
            · intro ys done W aa hE hn hF hD hZ hG hO
              replace hE : Below Q wr W := hE
              have hsz := Nat.le_trans hQ1 hE.size
              have o10 := hO 10 (by kernel_rfl)
              replace o10 : aa.tmps[10]? = some (.pointer (some ⟨n10, 0, none⟩)) := o10
              have v0 := hF 0 (by decide) (hD 0 (by kernel_rfl))
              replace v0 : ys 0 = .int .i64 k := v0 _ rfl
              have f0 := hG 0 155 rfl (Nat.le_of_ble_eq_true rfl)
              rw [v0] at f0
              have hSW := TellsAt.on hS18.out (hE.mono hQ2)
              obtain ⟨e0, e1, c0, c1, hgs, _⟩ := hst.out W hSW
              go_wp2_with fail
              exact ⟨_, rfl, Below.refl _ _, fun u h => Option.some.inj h, hZ.light (Below.refl _ _) (by decide)⟩
            · intro ys done W aa hE hn hF hD hZ hG hO
              replace hE : Below Q wr W := hE
              have hsz := Nat.le_trans hQ1 hE.size
              have v1 := hF 1 (by decide) (hD 1 (by kernel_rfl))
              replace v1 : ys 1 = .pointer (some ⟨n10, k, none⟩) := v1 _ rfl
              have f1 := hG 1 156 rfl (Nat.le_of_ble_eq_true rfl)
              rw [v1] at f1
              have hSW := TellsAt.on hS18.out (hE.mono hQ2)
              obtain ⟨e0, e1, c0, c1, hgs, _⟩ := hst.out W hSW
              go_wp2_with fail
              exact ⟨_, rfl, Below.refl _ _, fun u h => Option.some.inj h, hZ.light (Below.refl _ _) (by decide)⟩
            · intro ys done W aa hE hn hF hD hZ hG hO
              replace hE : Below Q wr W := hE
              have hsz := Nat.le_trans hQ1 hE.size
              have o27 := hO 27 (by kernel_rfl)
              replace o27 : aa.tmps[27]? = some (.int .i64 j) := o27
              go_wp2_with fail
              exact ⟨_, rfl, Below.refl _ _, fun u h => Option.some.inj h, hZ.light (Below.refl _ _) (by decide)⟩
            · intro ys done W aa hE hn hF hD hZ hG hO
              replace hE : Below Q wr W := hE
              have hsz := Nat.le_trans hQ1 hE.size
              have v2 := hF 2 (by decide) (hD 2 (by kernel_rfl))
              replace v2 : ys 2 = .slice (some ⟨g, o, none⟩) N cc := v2 _ rfl
              have f2 := hG 2 157 rfl (Nat.le_of_ble_eq_true rfl)
              rw [v2] at f2
              have v3 := hF 3 (by decide) (hD 3 (by kernel_rfl))
              replace v3 : ys 3 = .int .i64 j := v3 _ rfl
              have f3 := hG 3 158 rfl (Nat.le_of_ble_eq_true rfl)
              rw [v3] at f3
              go_wp2_with fail
              exact ⟨_, rfl, Below.refl _ _, fun u h => Option.some.inj h, hZ.light (Below.refl _ _) (by decide)⟩
            · intro ys done W aa hE hn hF hD hZ hG hO
              replace hE : Below Q wr W := hE
              have hsz := Nat.le_trans hQ1 hE.size
              have v4 := hF 4 (by decide) (hD 4 (by kernel_rfl))
              replace v4 : ys 4 = .pointer (some ⟨g, o + j * 2, none⟩) := v4 _ rfl
              have f4 := hG 4 159 rfl (Nat.le_of_ble_eq_true rfl)
              rw [v4] at f4
              have hSW := TellsAt.on hS18.out (hE.mono hQ2)
              obtain ⟨e0, e1, c0, c1, hgs, _⟩ := hst.out W hSW
              go_wp2_with fail
              exact ⟨_, rfl, Below.refl _ _, fun u h => Option.some.inj h, hZ.light (Below.refl _ _) (by decide)⟩
            · intro ys done W aa hE hn hF hD hZ hG hO
              replace hE : Below Q wr W := hE
              have hsz := Nat.le_trans hQ1 hE.size
              have o12 := hO 12 (by kernel_rfl)
              replace o12 : aa.tmps[12]? = some (.int .i64 k) := o12
              go_wp2_with fail
              exact ⟨_, rfl, Below.refl _ _, fun u h => Option.some.inj h, hZ.light (Below.refl _ _) (by decide)⟩
            · intro ys done W aa hE hn hF hD hZ hG hO
              replace hE : Below Q wr W := hE
              have hsz := Nat.le_trans hQ1 hE.size
              have o11 := hO 11 (by kernel_rfl)
              replace o11 : aa.tmps[11]? = some (.pointer (some ⟨n11, 0, none⟩)) := o11
              have v6 := hF 6 (by decide) (hD 6 (by kernel_rfl))
              replace v6 : ys 6 = .int .i64 k := v6 _ rfl
              have f6 := hG 6 161 rfl (Nat.le_of_ble_eq_true rfl)
              rw [v6] at f6
              go_wp2_with fail
              exact ⟨_, rfl, Below.refl _ _, fun u h => Option.some.inj h, hZ.light (Below.refl _ _) (by decide)⟩
            · intro ys done W aa hE hn hF hD hZ hG hO
              replace hE : Below Q wr W := hE
              have hsz := Nat.le_trans hQ1 hE.size
              have v7 := hF 7 (by decide) (hD 7 (by kernel_rfl))
              replace v7 : ys 7 = .pointer (some ⟨n11, k, none⟩) := v7 _ rfl
              have f7 := hG 7 162 rfl (Nat.le_of_ble_eq_true rfl)
              rw [v7] at f7
              have hSW := TellsAt.on hS18.out (hE.mono hQ2)
              obtain ⟨e0, e1, c0, c1, hgs, _⟩ := hst.out W hSW
              go_wp2_with fail
              exact ⟨_, rfl, Below.refl _ _, fun u h => Option.some.inj h, hZ.light (Below.refl _ _) (by decide)⟩
            · intro ys done W aa hE hn hF hD hZ hG hO
              replace hE : Below Q wr W := hE
              have hsz := Nat.le_trans hQ1 hE.size
              have hSW := TellsAt.on hS18.out (hE.mono hQ2)
              obtain ⟨e0, e1, c0, c1, hgs, _⟩ := hst.out W hSW
              have v5 := hF 5 (by decide) (hD 5 (by kernel_rfl))
              replace v5 : ys 5 = .agg #[.int .i64 s1, .int .i64 s2] := v5 _ rfl
              have f5 := hG 5 160 rfl (Nat.le_of_ble_eq_true rfl)
              rw [v5] at f5
              have v8 := hF 8 (by decide) (hD 8 (by kernel_rfl))
              replace v8 : ys 8 = .slice y M2 dd := v8 _ rfl
              have f8 := hG 8 163 rfl (Nat.le_of_ble_eq_true rfl)
              rw [v8] at f8
              go_wp2_with fail
              refine (kP.out W hSW).mono ?_
              rintro e W2 ⟨rfl, hbc⟩
              go_wp2_with fail
              exact ⟨_, rfl, hbc.mono hsz, fun u h => Option.some.inj h, hZ.light hbc (by decide)⟩
            · intro ys done W aa hE hn hF hD hZ hG hO
              replace hE : Below Q wr W := hE
              have hsz := Nat.le_trans hQ1 hE.size
              have v9 := hF 9 (by decide) (hD 9 (by kernel_rfl))
              replace v9 : ys 9 = .tuple #[.agg #[.int .i64 u.px, .int .i64 u.py], .bool b0] := v9 _ rfl
              have f9 := hG 9 164 rfl (Nat.le_of_ble_eq_true rfl)
              rw [v9] at f9
              go_wp2_with fail
              exact ⟨_, rfl, Below.refl _ _, fun u h => Option.some.inj h, hZ.light (Below.refl _ _) (by decide)⟩
            · intro ys done W aa hE hn hF hD hZ hG hO
              replace hE : Below Q wr W := hE
              have hsz := Nat.le_trans hQ1 hE.size
              have v10 := hF 10 (by decide) (hD 10 (by kernel_rfl))
              replace v10 : ys 10 = .tuple #[.agg #[.int .i64 u.px, .int .i64 u.py], .bool b0] := v10 _ rfl
              have f10 := hG 10 154 rfl (Nat.le_of_ble_eq_true rfl)
              rw [v10] at f10
              go_wp2_with fail
              exact ⟨_, rfl, Below.refl _ _, fun u h => Option.some.inj h, hZ.light (Below.refl _ _) (by decide)⟩
            · intro ys done W aa hE hn hF hD hZ hG hO
              replace hE : Below Q wr W := hE
              have hsz := Nat.le_trans hQ1 hE.size
              have v10 := hF 10 (by decide) (hD 10 (by kernel_rfl))
              replace v10 : ys 10 = .tuple #[.agg #[.int .i64 u.px, .int .i64 u.py], .bool b0] := v10 _ rfl
              have f10 := hG 10 154 rfl (Nat.le_of_ble_eq_true rfl)
              rw [v10] at f10
              go_wp2_with fail
              exact ⟨_, rfl, Below.refl _ _, fun u h => Option.some.inj h, hZ.light (Below.refl _ _) (by decide)⟩
            · intro ys done W aa hE hn hF hD hZ hG hO
              replace hE : Below Q wr W := hE
              have hsz := Nat.le_trans hQ1 hE.size
              go_wp2_with fail
              exact ⟨_, rfl, (Below.refl _ _).alloc hsz _, fun u h => (by cases h), hZ.new hn hsz⟩
            · intro ys done W aa hE hn hF hD hZ hG hO
              replace hE : Below Q wr W := hE
              have hsz := Nat.le_trans hQ1 hE.size
              obtain ⟨gn, za, zb, ze, hgN, hA, _⟩ := hZ.one (hD 13 (by kernel_rfl))
              have f13 := hG 13 28 rfl (Nat.le_of_ble_eq_true rfl)
              rw [ze] at f13
              unfold bptr at f13
              have v11 := hF 11 (by decide) (hD 11 (by kernel_rfl))
              replace v11 : ys 11 = .agg #[.int .i64 u.px, .int .i64 u.py] := v11 _ rfl
              have f11 := hG 11 165 rfl (Nat.le_of_ble_eq_true rfl)
              rw [v11] at f11
              have a0 := hA.cell 0
              have a1 := hA.cell 1
              simp at a0 a1
              have hf := hA.free
              have hgi := hA.inside
              go_wp2_with fail
              exact ⟨((Below.refl _ _).setCell (show Q ≤ (⟨gn, 0, none⟩ : Addr).block from hgN) _).setCell (show Q ≤ (⟨gn, 1, none⟩ : Addr).block from hgN) _, undef, fun u h => (by cases h), hZ.put (hD 13 (by kernel_rfl)) ze hgN hA⟩
          case hQ19 =>
            intro ys w19 hE hF hZ
            obtain ⟨done, hd, hZ⟩ := hZ
            have v0 : ys 0 = .int .i64 k := hF 0 (by decide) _ rfl
            have v1 : ys 1 = .pointer (some ⟨n10, k, none⟩) := hF 1 (by decide) _ rfl
            have v2 : ys 2 = .slice (some ⟨g, o, none⟩) N cc := hF 2 (by decide) _ rfl
            have v3 : ys 3 = .int .i64 j := hF 3 (by decide) _ rfl
            have v4 : ys 4 = .pointer (some ⟨g, o + j * 2, none⟩) := hF 4 (by decide) _ rfl
            have v5 : ys 5 = .agg #[.int .i64 s1, .int .i64 s2] := hF 5 (by decide) _ rfl
            have v6 : ys 6 = .int .i64 k := hF 6 (by decide) _ rfl
            have v7 : ys 7 = .pointer (some ⟨n11, k, none⟩) := hF 7 (by decide) _ rfl
            have v8 : ys 8 = .slice y M2 dd := hF 8 (by decide) _ rfl
            have v9 : ys 9 = .tuple #[.agg #[.int .i64 u.px, .int .i64 u.py], .bool b0] := hF 9 (by decide) _ rfl
            have v10 : ys 10 = .tuple #[.agg #[.int .i64 u.px, .int .i64 u.py], .bool b0] := hF 10 (by decide) _ rfl
            have v11 : ys 11 = .agg #[.int .i64 u.px, .int .i64 u.py] := hF 11 (by decide) _ rfl
            have v12 : ys 12 = .bool b0 := hF 12 (by decide) _ rfl
            obtain ⟨g19, za, zb, ze, hgN, hA, h14⟩ := hZ.one (hd 13 (by decide))
            obtain ⟨ea, eb⟩ := h14 (hd 14 (by decide))
            rw [ea, eb] at hA
            replace hE : Below Q wr w19 := hE
            have hbb := hE.mono hQ2
            have hP19 := Lib.hid hA
            have hS19 := Lib.hid (TellsAt.on hS18.out hbb)
            simp only [List.take_succ_cons, List.take_zero, List.drop_succ_cons, List.drop_zero, Sched.fill, v0, v1, v2, v3, v4, v5, v6, v7, v8, v9, v10, v11, v12, ze]
            clear v0 v1 v2 v3 v4 v5 v6 v7 v8 v9 v10 v11 v12 ze ea eb h14 hZ hd hF hE hbb hA hgN hQ1 hQ2
            simp only [bptr]
            go_upto_region 20 with fail
            obtain ⟨Q, hQ1, hQ2⟩ : ∃ Q, Q ≤ w19.heap.size ∧ w19.heap.size ≤ Q := ⟨_, Nat.le_refl _, Nat.le_refl _⟩
            go_upto_region 20 with fail
            refine Sched.wp_region_sched 15 (fun W V => Below Q W V) (VT [.int .i64 k, .pointer (some ⟨n10, k, none⟩), .slice (some ⟨g, o, none⟩) N cc, .int .i64 j, .pointer (some ⟨g, o + j * 2, none⟩), .agg #[.int .i64 s1, .int .i64 s2], .int .i64 k, .pointer (some ⟨n11, k, none⟩), .slice y M2 dd, .tuple #[.agg #[.int .i64 u.px, .int .i64 u.py], .bool b0], .tuple #[.agg #[.int .i64 u.px, .int .i64 u.py], .bool b0], .agg #[.int .i64 u.px, .int .i64 u.py], .bool b0]) (ZT Q 28 u.px u.py) (by kernel_rfl) (by kernel_rfl) (by kernel_rfl) (fun h1 h2 => h1.trans h2) (fun h1 _ => h1) (Below.refl _ _).drew (fun ys => ZT.start _ _ _ _ _ _) (Sched.StepsA.steps (by kernel_rfl) ?hS20) ?hQ20
            case hS20 =>
              simp only [List.take_succ_cons, List.take_zero]
              refine ⟨?_, ?_, ?_, ?_, ?_, ?_, ?_, ?_, ?_, ?_, ?_, ?_, ?_, ?_, ?_, trivial⟩
              · intro ys done W aa hE hn hF hD hZ hG hO
                replace hE : Below Q w19 W := hE
                have hsz := Nat.le_trans hQ1 hE.size
                have o12 := hO 12 (by kernel_rfl)
                replace o12 : aa.tmps[12]? = some (.int .i64 k) := o12
                go_wp2_with fail
                exact ⟨_, rfl, Below.refl _ _, fun u h => Option.some.inj h, hZ.light (Below.refl _ _) (by decide)⟩
              · intro ys done W aa hE hn hF hD hZ hG hO
                replace hE : Below Q w19 W := hE
                have hsz := Nat.le_trans hQ1 hE.size
                have o10 := hO 10 (by kernel_rfl)
                replace o10 : aa.tmps[10]? = some (.pointer (some ⟨n10, 0, none⟩)) := o10
                have v0 := hF 0 (by decide) (hD 0 (by kernel_rfl))
                replace v0 : ys 0 = .int .i64 k := v0 _ rfl
                have f0 := hG 0 168 rfl (Nat.le_of_ble_eq_true rfl)
                rw [v0] at f0
                have hSW := TellsAt.on hS19.out (hE.mono hQ2)
                obtain ⟨e0, e1, c0, c1, hgs, _⟩ := hst.out W hSW
                go_wp2_with fail
                exact ⟨_, rfl, Below.refl _ _, fun u h => Option.some.inj h, hZ.light (Below.refl _ _) (by decide)⟩
              · intro ys done W aa hE hn hF hD hZ hG hO
                replace hE : Below Q w19 W := hE
                have hsz := Nat.le_trans hQ1 hE.size
                have v1 := hF 1 (by decide) (hD 1 (by kernel_rfl))
                replace v1 : ys 1 = .pointer (some ⟨n10, k, none⟩) := v1 _ rfl
                have f1 := hG 1 169 rfl (Nat.le_of_ble_eq_true rfl)
                rw [v1] at f1
                have hSW := TellsAt.on hS19.out (hE.mono hQ2)
                obtain ⟨e0, e1, c0, c1, hgs, _⟩ := hst.out W hSW
                go_wp2_with fail
                exact ⟨_, rfl, Below.refl _ _, fun u h => Option.some.inj h, hZ.light (Below.refl _ _) (by decide)⟩
              · intro ys done W aa hE hn hF hD hZ hG hO
                replace hE : Below Q w19 W := hE
                have hsz := Nat.le_trans hQ1 hE.size
                have o27 := hO 27 (by kernel_rfl)
                replace o27 : aa.tmps[27]? = some (.int .i64 j) := o27
                go_wp2_with fail
                exact ⟨_, rfl, Below.refl _ _, fun u h => Option.some.inj h, hZ.light (Below.refl _ _) (by decide)⟩
              · intro ys done W aa hE hn hF hD hZ hG hO
                replace hE : Below Q w19 W := hE
                have hsz := Nat.le_trans hQ1 hE.size
                have v2 := hF 2 (by decide) (hD 2 (by kernel_rfl))
                replace v2 : ys 2 = .slice (some ⟨g, o, none⟩) N cc := v2 _ rfl
                have f2 := hG 2 170 rfl (Nat.le_of_ble_eq_true rfl)
                rw [v2] at f2
                have v3 := hF 3 (by decide) (hD 3 (by kernel_rfl))
                replace v3 : ys 3 = .int .i64 j := v3 _ rfl
                have f3 := hG 3 171 rfl (Nat.le_of_ble_eq_true rfl)
                rw [v3] at f3
                go_wp2_with fail
                exact ⟨_, rfl, Below.refl _ _, fun u h => Option.some.inj h, hZ.light (Below.refl _ _) (by decide)⟩
              · intro ys done W aa hE hn hF hD hZ hG hO
                replace hE : Below Q w19 W := hE
                have hsz := Nat.le_trans hQ1 hE.size
                have v4 := hF 4 (by decide) (hD 4 (by kernel_rfl))
                replace v4 : ys 4 = .pointer (some ⟨g, o + j * 2, none⟩) := v4 _ rfl
                have f4 := hG 4 172 rfl (Nat.le_of_ble_eq_true rfl)
                rw [v4] at f4
                have hSW := TellsAt.on hS19.out (hE.mono hQ2)
                obtain ⟨e0, e1, c0, c1, hgs, _⟩ := hst.out W hSW
                go_wp2_with fail
                exact ⟨_, rfl, Below.refl _ _, fun u h => Option.some.inj h, hZ.light (Below.refl _ _) (by decide)⟩
              · intro ys done W aa hE hn hF hD hZ hG hO
                replace hE : Below Q w19 W := hE
                have hsz := Nat.le_trans hQ1 hE.size
                have o12 := hO 12 (by kernel_rfl)
                replace o12 : aa.tmps[12]? = some (.int .i64 k) := o12
                go_wp2_with fail
                exact ⟨_, rfl, Below.refl _ _, fun u h => Option.some.inj h, hZ.light (Below.refl _ _) (by decide)⟩
              · intro ys done W aa hE hn hF hD hZ hG hO
                replace hE : Below Q w19 W := hE
                have hsz := Nat.le_trans hQ1 hE.size
                have o11 := hO 11 (by kernel_rfl)
                replace o11 : aa.tmps[11]? = some (.pointer (some ⟨n11, 0, none⟩)) := o11
                have v6 := hF 6 (by decide) (hD 6 (by kernel_rfl))
                replace v6 : ys 6 = .int .i64 k := v6 _ rfl
                have f6 := hG 6 174 rfl (Nat.le_of_ble_eq_true rfl)
                rw [v6] at f6
                go_wp2_with fail
                exact ⟨_, rfl, Below.refl _ _, fun u h => Option.some.inj h, hZ.light (Below.refl _ _) (by decide)⟩
              · intro ys done W aa hE hn hF hD hZ hG hO
                replace hE : Below Q w19 W := hE
                have hsz := Nat.le_trans hQ1 hE.size
                have v7 := hF 7 (by decide) (hD 7 (by kernel_rfl))
                replace v7 : ys 7 = .pointer (some ⟨n11, k, none⟩) := v7 _ rfl
                have f7 := hG 7 175 rfl (Nat.le_of_ble_eq_true rfl)
                rw [v7] at f7
                have hSW := TellsAt.on hS19.out (hE.mono hQ2)
                obtain ⟨e0, e1, c0, c1, hgs, _⟩ := hst.out W hSW
                go_wp2_with fail
                exact ⟨_, rfl, Below.refl _ _, fun u h => Option.some.inj h, hZ.light (Below.refl _ _) (by decide)⟩
              · intro ys done W aa hE hn hF hD hZ hG hO
                replace hE : Below Q w19 W := hE
                have hsz := Nat.le_trans hQ1 hE.size
                have hSW := TellsAt.on hS19.out (hE.mono hQ2)
                obtain ⟨e0, e1, c0, c1, hgs, _⟩ := hst.out W hSW
                have v5 := hF 5 (by decide) (hD 5 (by kernel_rfl))
                replace v5 : ys 5 = .agg #[.int .i64 s1, .int .i64 s2] := v5 _ rfl
                have f5 := hG 5 173 rfl (Nat.le_of_ble_eq_true rfl)
                rw [v5] at f5
                have v8 := hF 8 (by decide) (hD 8 (by kernel_rfl))
                replace v8 : ys 8 = .slice y M2 dd := v8 _ rfl
                have f8 := hG 8 176 rfl (Nat.le_of_ble_eq_true rfl)
                rw [v8] at f8
                go_wp2_with fail
                refine (kQ.out W hSW).mono ?_
                rintro e W2 ⟨rfl, hbc⟩
                go_wp2_with fail
                exact ⟨_, rfl, hbc.mono hsz, fun u h => Option.some.inj h, hZ.light hbc (by decide)⟩
              · intro ys done W aa hE hn hF hD hZ hG hO
                replace hE : Below Q w19 W := hE
                have hsz := Nat.le_trans hQ1 hE.size
                have v9 := hF 9 (by decide) (hD 9 (by kernel_rfl))
                replace v9 : ys 9 = .tuple #[.agg #[.int .i64 u.px, .int .i64 u.py], .bool b0] := v9 _ rfl
                have f9 := hG 9 177 rfl (Nat.le_of_ble_eq_true rfl)
                rw [v9] at f9
                go_wp2_with fail
                exact ⟨_, rfl, Below.refl _ _, fun u h => Option.some.inj h, hZ.light (Below.refl _ _) (by decide)⟩
              · intro ys done W aa hE hn hF hD hZ hG hO
                replace hE : Below Q w19 W := hE
                have hsz := Nat.le_trans hQ1 hE.size
                have v10 := hF 10 (by decide) (hD 10 (by kernel_rfl))
                replace v10 : ys 10 = .tuple #[.agg #[.int .i64 u.px, .int .i64 u.py], .bool b0] := v10 _ rfl
                have f10 := hG 10 167 rfl (Nat.le_of_ble_eq_true rfl)
                rw [v10] at f10
                go_wp2_with fail
                exact ⟨_, rfl, Below.refl _ _, fun u h => Option.some.inj h, hZ.light (Below.refl _ _) (by decide)⟩
              · intro ys done W aa hE hn hF hD hZ hG hO
                replace hE : Below Q w19 W := hE
                have hsz := Nat.le_trans hQ1 hE.size
                have v10 := hF 10 (by decide) (hD 10 (by kernel_rfl))
                replace v10 : ys 10 = .tuple #[.agg #[.int .i64 u.px, .int .i64 u.py], .bool b0] := v10 _ rfl
                have f10 := hG 10 167 rfl (Nat.le_of_ble_eq_true rfl)
                rw [v10] at f10
                go_wp2_with fail
                exact ⟨_, rfl, Below.refl _ _, fun u h => Option.some.inj h, hZ.light (Below.refl _ _) (by decide)⟩
              · intro ys done W aa hE hn hF hD hZ hG hO
                replace hE : Below Q w19 W := hE
                have hsz := Nat.le_trans hQ1 hE.size
                go_wp2_with fail
                exact ⟨_, rfl, (Below.refl _ _).alloc hsz _, fun u h => (by cases h), hZ.new hn hsz⟩
              · intro ys done W aa hE hn hF hD hZ hG hO
                replace hE : Below Q w19 W := hE
                have hsz := Nat.le_trans hQ1 hE.size
                obtain ⟨gn, za, zb, ze, hgN, hA, _⟩ := hZ.one (hD 13 (by kernel_rfl))
                have f13 := hG 13 30 rfl (Nat.le_of_ble_eq_true rfl)
                rw [ze] at f13
                unfold bptr at f13
                have v11 := hF 11 (by decide) (hD 11 (by kernel_rfl))
                replace v11 : ys 11 = .agg #[.int .i64 u.px, .int .i64 u.py] := v11 _ rfl
                have f11 := hG 11 178 rfl (Nat.le_of_ble_eq_true rfl)
                rw [v11] at f11
                have a0 := hA.cell 0
                have a1 := hA.cell 1
                simp at a0 a1
                have hf := hA.free
                have hgi := hA.inside
                go_wp2_with fail
                exact ⟨((Below.refl _ _).setCell (show Q ≤ (⟨gn, 0, none⟩ : Addr).block from hgN) _).setCell (show Q ≤ (⟨gn, 1, none⟩ : Addr).block from hgN) _, undef, fun u h => (by cases h), hZ.put (hD 13 (by kernel_rfl)) ze hgN hA⟩
            case hQ20 =>
              intro ys w20 hE hF hZ
              obtain ⟨done, hd, hZ⟩ := hZ
              have v0 : ys 0 = .int .i64 k := hF 0 (by decide) _ rfl
              have v1 : ys 1 = .pointer (some ⟨n10, k, none⟩) := hF 1 (by decide) _ rfl
              have v2 : ys 2 = .slice (some ⟨g, o, none⟩) N cc := hF 2 (by decide) _ rfl
              have v3 : ys 3 = .int .i64 j := hF 3 (by decide) _ rfl
              have v4 : ys 4 = .pointer (some ⟨g, o + j * 2, none⟩) := hF 4 (by decide) _ rfl
              have v5 : ys 5 = .agg #[.int .i64 s1, .int .i64 s2] := hF 5 (by decide) _ rfl
              have v6 : ys 6 = .int .i64 k := hF 6 (by decide) _ rfl
              have v7 : ys 7 = .pointer (some ⟨n11, k, none⟩) := hF 7 (by decide) _ rfl
              have v8 : ys 8 = .slice y M2 dd := hF 8 (by decide) _ rfl
              have v9 : ys 9 = .tuple #[.agg #[.int .i64 u.px, .int .i64 u.py], .bool b0] := hF 9 (by decide) _ rfl
              have v10 : ys 10 = .tuple #[.agg #[.int .i64 u.px, .int .i64 u.py], .bool b0] := hF 10 (by decide) _ rfl
              have v11 : ys 11 = .agg #[.int .i64 u.px, .int .i64 u.py] := hF 11 (by decide) _ rfl
              have v12 : ys 12 = .bool b0 := hF 12 (by decide) _ rfl
              obtain ⟨g20, za, zb, ze, hgN, hA, h14⟩ := hZ.one (hd 13 (by decide))
              obtain ⟨ea, eb⟩ := h14 (hd 14 (by decide))
              rw [ea, eb] at hA
              replace hE : Below Q w19 w20 := hE
              have hbb := hE.mono hQ2
              have hP20 := Lib.hid hA
              have hS20 := Lib.hid (TellsAt.on hS19.out hbb)
              have hP19 := Lib.hid (hP19.out.keep hbb hP19.out.inside)
              simp only [List.take_succ_cons, List.take_zero, List.drop_succ_cons, List.drop_zero, Sched.fill, v0, v1, v2, v3, v4, v5, v6, v7, v8, v9, v10, v11, v12, ze]
              clear v0 v1 v2 v3 v4 v5 v6 v7 v8 v9 v10 v11 v12 ze ea eb h14 hZ hd hF hE hbb hA hgN hQ1 hQ2
              simp only [bptr]
              go_upto_region 21 with fail
              obtain ⟨Q, hQ1, hQ2⟩ : ∃ Q, Q ≤ w20.heap.size ∧ w20.heap.size ≤ Q := ⟨_, Nat.le_refl _, Nat.le_refl _⟩
              go_upto_region 21 with fail
              refine Sched.wp_region_sched 15 (fun W V => Below Q W V) (VT [.int .i64 k, .pointer (some ⟨n10, k, none⟩), .slice (some ⟨g, o, none⟩) N cc, .int .i64 j, .pointer (some ⟨g, o + j * 2, none⟩), .agg #[.int .i64 s1, .int .i64 s2], .int .i64 k, .pointer (some ⟨n11, k, none⟩), .slice y M2 dd, .tuple #[.agg #[.int .i64 u.we, .int .i64 u.wl], .bool b0], .tuple #[.agg #[.int .i64 u.we, .int .i64 u.wl], .bool b0], .agg #[.int .i64 u.we, .int .i64 u.wl], .bool b0]) (ZT Q 47 u.we u.wl) (by kernel_rfl) (by kernel_rfl) (by kernel_rfl) (fun h1 h2 => h1.trans h2) (fun h1 _ => h1) (Below.refl _ _).drew (fun ys => ZT.start _ _ _ _ _ _) (Sched.StepsA.steps (by kernel_rfl) ?hS21) ?hQ21
              case hS21 =>
                simp only [List.take_succ_cons, List.take_zero]
                refine ⟨?_, ?_, ?_, ?_, ?_, ?_, ?_, ?_, ?_, ?_, ?_, ?_, ?_, ?_, ?_, trivial⟩
                · intro ys done W aa hE hn hF hD hZ hG hO
                  replace hE : Below Q w20 W := hE
                  have hsz := Nat.le_trans hQ1 hE.size
                  have o12 := hO 12 (by kernel_rfl)
                  replace o12 : aa.tmps[12]? = some (.int .i64 k) := o12
                  go_wp2_with fail
                  exact ⟨_, rfl, Below.refl _ _, fun u h => Option.some.inj h, hZ.light (Below.refl _ _) (by decide)⟩
                · intro ys done W aa hE hn hF hD hZ hG hO
                  replace hE : Below Q w20 W := hE
                  have hsz := Nat.le_trans hQ1 hE.size
                  have o10 := hO 10 (by kernel_rfl)
                  replace o10 : aa.tmps[10]? = some (.pointer (some ⟨n10, 0, none⟩)) := o10
                  have v0 := hF 0 (by decide) (hD 0 (by kernel_rfl))
                  replace v0 : ys 0 = .int .i64 k := v0 _ rfl
                  have f0 := hG 0 181 rfl (Nat.le_of_ble_eq_true rfl)
                  rw [v0] at f0
                  have hSW := TellsAt.on hS20.out (hE.mono hQ2)
                  obtain ⟨e0, e1, c0, c1, hgs, _⟩ := hst.out W hSW
                  go_wp2_with fail
                  exact ⟨_, rfl, Below.refl _ _, fun u h => Option.some.inj h, hZ.light (Below.refl _ _) (by decide)⟩
                · intro ys done W aa hE hn hF hD hZ hG hO
                  replace hE : Below Q w20 W := hE
                  have hsz := Nat.le_trans hQ1 hE.size
                  have v1 := hF 1 (by decide) (hD 1 (by kernel_rfl))
                  replace v1 : ys 1 = .pointer (some ⟨n10, k, none⟩) := v1 _ rfl
                  have f1 := hG 1 182 rfl (Nat.le_of_ble_eq_true rfl)
                  rw [v1] at f1
                  have hSW := TellsAt.on hS20.out (hE.mono hQ2)
                  obtain ⟨e0, e1, c0, c1, hgs, _⟩ := hst.out W hSW
                  go_wp2_with fail
                  exact ⟨_, rfl, Below.refl _ _, fun u h => Option.some.inj h, hZ.light (Below.refl _ _) (by decide)⟩
                · intro ys done W aa hE hn hF hD hZ hG hO
                  replace hE : Below Q w20 W := hE
                  have hsz := Nat.le_trans hQ1 hE.size
                  have o27 := hO 27 (by kernel_rfl)
                  replace o27 : aa.tmps[27]? = some (.int .i64 j) := o27
                  go_wp2_with fail
                  exact ⟨_, rfl, Below.refl _ _, fun u h => Option.some.inj h, hZ.light (Below.refl _ _) (by decide)⟩
                · intro ys done W aa hE hn hF hD hZ hG hO
                  replace hE : Below Q w20 W := hE
                  have hsz := Nat.le_trans hQ1 hE.size
                  have v2 := hF 2 (by decide) (hD 2 (by kernel_rfl))
                  replace v2 : ys 2 = .slice (some ⟨g, o, none⟩) N cc := v2 _ rfl
                  have f2 := hG 2 183 rfl (Nat.le_of_ble_eq_true rfl)
                  rw [v2] at f2
                  have v3 := hF 3 (by decide) (hD 3 (by kernel_rfl))
                  replace v3 : ys 3 = .int .i64 j := v3 _ rfl
                  have f3 := hG 3 184 rfl (Nat.le_of_ble_eq_true rfl)
                  rw [v3] at f3
                  go_wp2_with fail
                  exact ⟨_, rfl, Below.refl _ _, fun u h => Option.some.inj h, hZ.light (Below.refl _ _) (by decide)⟩
                · intro ys done W aa hE hn hF hD hZ hG hO
                  replace hE : Below Q w20 W := hE
                  have hsz := Nat.le_trans hQ1 hE.size
                  have v4 := hF 4 (by decide) (hD 4 (by kernel_rfl))
                  replace v4 : ys 4 = .pointer (some ⟨g, o + j * 2, none⟩) := v4 _ rfl
                  have f4 := hG 4 185 rfl (Nat.le_of_ble_eq_true rfl)
                  rw [v4] at f4
                  have hSW := TellsAt.on hS20.out (hE.mono hQ2)
                  obtain ⟨e0, e1, c0, c1, hgs, _⟩ := hst.out W hSW
                  go_wp2_with fail
                  exact ⟨_, rfl, Below.refl _ _, fun u h => Option.some.inj h, hZ.light (Below.refl _ _) (by decide)⟩
                · intro ys done W aa hE hn hF hD hZ hG hO
                  replace hE : Below Q w20 W := hE
                  have hsz := Nat.le_trans hQ1 hE.size
                  have o12 := hO 12 (by kernel_rfl)
                  replace o12 : aa.tmps[12]? = some (.int .i64 k) := o12
                  go_wp2_with fail
                  exact ⟨_, rfl, Below.refl _ _, fun u h => Option.some.inj h, hZ.light (Below.refl _ _) (by decide)⟩
                · intro ys done W aa hE hn hF hD hZ hG hO
                  replace hE : Below Q w20 W := hE
                  have hsz := Nat.le_trans hQ1 hE.size
                  have o11 := hO 11 (by kernel_rfl)
                  replace o11 : aa.tmps[11]? = some (.pointer (some ⟨n11, 0, none⟩)) := o11
                  have v6 := hF 6 (by decide) (hD 6 (by kernel_rfl))
                  replace v6 : ys 6 = .int .i64 k := v6 _ rfl
                  have f6 := hG 6 187 rfl (Nat.le_of_ble_eq_true rfl)
                  rw [v6] at f6
                  go_wp2_with fail
                  exact ⟨_, rfl, Below.refl _ _, fun u h => Option.some.inj h, hZ.light (Below.refl _ _) (by decide)⟩
                · intro ys done W aa hE hn hF hD hZ hG hO
                  replace hE : Below Q w20 W := hE
                  have hsz := Nat.le_trans hQ1 hE.size
                  have v7 := hF 7 (by decide) (hD 7 (by kernel_rfl))
                  replace v7 : ys 7 = .pointer (some ⟨n11, k, none⟩) := v7 _ rfl
                  have f7 := hG 7 188 rfl (Nat.le_of_ble_eq_true rfl)
                  rw [v7] at f7
                  have hSW := TellsAt.on hS20.out (hE.mono hQ2)
                  obtain ⟨e0, e1, c0, c1, hgs, _⟩ := hst.out W hSW
                  go_wp2_with fail
                  exact ⟨_, rfl, Below.refl _ _, fun u h => Option.some.inj h, hZ.light (Below.refl _ _) (by decide)⟩
                · intro ys done W aa hE hn hF hD hZ hG hO
                  replace hE : Below Q w20 W := hE
                  have hsz := Nat.le_trans hQ1 hE.size
                  have hSW := TellsAt.on hS20.out (hE.mono hQ2)
                  obtain ⟨e0, e1, c0, c1, hgs, _⟩ := hst.out W hSW
                  have v5 := hF 5 (by decide) (hD 5 (by kernel_rfl))
                  replace v5 : ys 5 = .agg #[.int .i64 s1, .int .i64 s2] := v5 _ rfl
                  have f5 := hG 5 186 rfl (Nat.le_of_ble_eq_true rfl)
                  rw [v5] at f5
                  have v8 := hF 8 (by decide) (hD 8 (by kernel_rfl))
                  replace v8 : ys 8 = .slice y M2 dd := v8 _ rfl
                  have f8 := hG 8 189 rfl (Nat.le_of_ble_eq_true rfl)
                  rw [v8] at f8
                  go_wp2_with fail
                  refine (kW.out W hSW).mono ?_
                  rintro e W2 ⟨rfl, hbc⟩
                  go_wp2_with fail
                  exact ⟨_, rfl, hbc.mono hsz, fun u h => Option.some.inj h, hZ.light hbc (by decide)⟩
                · intro ys done W aa hE hn hF hD hZ hG hO
                  replace hE : Below Q w20 W := hE
                  have hsz := Nat.le_trans hQ1 hE.size
                  have v9 := hF 9 (by decide) (hD 9 (by kernel_rfl))
                  replace v9 : ys 9 = .tuple #[.agg #[.int .i64 u.we, .int .i64 u.wl], .bool b0] := v9 _ rfl
                  have f9 := hG 9 190 rfl (Nat.le_of_ble_eq_true rfl)
                  rw [v9] at f9
                  go_wp2_with fail
                  exact ⟨_, rfl, Below.refl _ _, fun u h => Option.some.inj h, hZ.light (Below.refl _ _) (by decide)⟩
                · intro ys done W aa hE hn hF hD hZ hG hO
                  replace hE : Below Q w20 W := hE
                  have hsz := Nat.le_trans hQ1 hE.size
                  have v10 := hF 10 (by decide) (hD 10 (by kernel_rfl))
                  replace v10 : ys 10 = .tuple #[.agg #[.int .i64 u.we, .int .i64 u.wl], .bool b0] := v10 _ rfl
                  have f10 := hG 10 180 rfl (Nat.le_of_ble_eq_true rfl)
                  rw [v10] at f10
                  go_wp2_with fail
                  exact ⟨_, rfl, Below.refl _ _, fun u h => Option.some.inj h, hZ.light (Below.refl _ _) (by decide)⟩
                · intro ys done W aa hE hn hF hD hZ hG hO
                  replace hE : Below Q w20 W := hE
                  have hsz := Nat.le_trans hQ1 hE.size
                  have v10 := hF 10 (by decide) (hD 10 (by kernel_rfl))
                  replace v10 : ys 10 = .tuple #[.agg #[.int .i64 u.we, .int .i64 u.wl], .bool b0] := v10 _ rfl
                  have f10 := hG 10 180 rfl (Nat.le_of_ble_eq_true rfl)
                  rw [v10] at f10
                  go_wp2_with fail
                  exact ⟨_, rfl, Below.refl _ _, fun u h => Option.some.inj h, hZ.light (Below.refl _ _) (by decide)⟩
                · intro ys done W aa hE hn hF hD hZ hG hO
                  replace hE : Below Q w20 W := hE
                  have hsz := Nat.le_trans hQ1 hE.size
                  go_wp2_with fail
                  exact ⟨_, rfl, (Below.refl _ _).alloc hsz _, fun u h => (by cases h), hZ.new hn hsz⟩
                · intro ys done W aa hE hn hF hD hZ hG hO
                  replace hE : Below Q w20 W := hE
                  have hsz := Nat.le_trans hQ1 hE.size
                  obtain ⟨gn, za, zb, ze, hgN, hA, _⟩ := hZ.one (hD 13 (by kernel_rfl))
                  have f13 := hG 13 32 rfl (Nat.le_of_ble_eq_true rfl)
                  rw [ze] at f13
                  unfold bptr at f13
                  have v11 := hF 11 (by decide) (hD 11 (by kernel_rfl))
                  replace v11 : ys 11 = .agg #[.int .i64 u.we, .int .i64 u.wl] := v11 _ rfl
                  have f11 := hG 11 191 rfl (Nat.le_of_ble_eq_true rfl)
                  rw [v11] at f11
                  have a0 := hA.cell 0
                  have a1 := hA.cell 1
                  simp at a0 a1
                  have hf := hA.free
                  have hgi := hA.inside
                  go_wp2_with fail
                  exact ⟨((Below.refl _ _).setCell (show Q ≤ (⟨gn, 0, none⟩ : Addr).block from hgN) _).setCell (show Q ≤ (⟨gn, 1, none⟩ : Addr).block from hgN) _, undef, fun u h => (by cases h), hZ.put (hD 13 (by kernel_rfl)) ze hgN hA⟩
              case hQ21 =>
                intro ys w21 hE hF hZ
                obtain ⟨done, hd, hZ⟩ := hZ
                have v0 : ys 0 = .int .i64 k := hF 0 (by decide) _ rfl
                have v1 : ys 1 = .pointer (some ⟨n10, k, none⟩) := hF 1 (by decide) _ rfl
                have v2 : ys 2 = .slice (some ⟨g, o, none⟩) N cc := hF 2 (by decide) _ rfl
                have v3 : ys 3 = .int .i64 j := hF 3 (by decide) _ rfl
                have v4 : ys 4 = .pointer (some ⟨g, o + j * 2, none⟩) := hF 4 (by decide) _ rfl
                have v5 : ys 5 = .agg #[.int .i64 s1, .int .i64 s2] := hF 5 (by decide) _ rfl
                have v6 : ys 6 = .int .i64 k := hF 6 (by decide) _ rfl
                have v7 : ys 7 = .pointer (some ⟨n11, k, none⟩) := hF 7 (by decide) _ rfl
                have v8 : ys 8 = .slice y M2 dd := hF 8 (by decide) _ rfl
                have v9 : ys 9 = .tuple #[.agg #[.int .i64 u.we, .int .i64 u.wl], .bool b0] := hF 9 (by decide) _ rfl
                have v10 : ys 10 = .tuple #[.agg #[.int .i64 u.we, .int .i64 u.wl], .bool b0] := hF 10 (by decide) _ rfl
                have v11 : ys 11 = .agg #[.int .i64 u.we, .int .i64 u.wl] := hF 11 (by decide) _ rfl
                have v12 : ys 12 = .bool b0 := hF 12 (by decide) _ rfl
                obtain ⟨g21, za, zb, ze, hgN, hA, h14⟩ := hZ.one (hd 13 (by decide))
                obtain ⟨ea, eb⟩ := h14 (hd 14 (by decide))
                rw [ea, eb] at hA
                replace hE : Below Q w20 w21 := hE
                have hbb := hE.mono hQ2
                have hP21 := Lib.hid hA
                have hS21 := Lib.hid (TellsAt.on hS20.out hbb)
                have hP19 := Lib.hid (hP19.out.keep hbb hP19.out.inside)
                have hP20 := Lib.hid (hP20.out.keep hbb hP20.out.inside)
                simp only [List.take_succ_cons, List.take_zero, List.drop_succ_cons, List.drop_zero, Sched.fill, v0, v1, v2, v3, v4, v5, v6, v7, v8, v9, v10, v11, v12, ze]
                clear v0 v1 v2 v3 v4 v5 v6 v7 v8 v9 v10 v11 v12 ze ea eb h14 hZ hd hF hE hbb hA hgN hQ1 hQ2
                simp only [bptr]
                go_upto_region 22 with fail
                obtain ⟨Q, hQ1, hQ2⟩ : ∃ Q, Q ≤ w21.heap.size ∧ w21.heap.size ≤ Q := ⟨_, Nat.le_refl _, Nat.le_refl _⟩
                go_upto_region 22 with fail
                refine Sched.wp_region_sched 15 (fun W V => Below Q W V) (VT [.int .i64 k, .pointer (some ⟨n10, k, none⟩), .slice (some ⟨g, o, none⟩) N cc, .int .i64 j, .pointer (some ⟨g, o + j * 2, none⟩), .agg #[.int .i64 s1, .int .i64 s2], .int .i64 k, .pointer (some ⟨n11, k, none⟩), .slice y M2 dd, .tuple #[.agg #[.int .i64 u.we, .int .i64 u.wl], .bool b0], .tuple #[.agg #[.int .i64 u.we, .int .i64 u.wl], .bool b0], .agg #[.int .i64 u.we, .int .i64 u.wl], .bool b0]) (ZT Q 47 u.we u.wl) (by kernel_rfl) (by kernel_rfl) (by kernel_rfl) (fun h1 h2 => h1.trans h2) (fun h1 _ => h1) (Below.refl _ _).drew (fun ys => ZT.start _ _ _ _ _ _) (Sched.StepsA.steps (by kernel_rfl) ?hS22) ?hQ22
                case hS22 =>
                  simp only [List.take_succ_cons, List.take_zero]
                  refine ⟨?_, ?_, ?_, ?_, ?_, ?_, ?_, ?_, ?_, ?_, ?_, ?_, ?_, ?_, ?_, trivial⟩
                  · intro ys done W aa hE hn hF hD hZ hG hO
                    replace hE : Below Q w21 W := hE
                    have hsz := Nat.le_trans hQ1 hE.size
                    have o12 := hO 12 (by kernel_rfl)
                    replace o12 : aa.tmps[12]? = some (.int .i64 k) := o12
                    go_wp2_with fail
                    exact ⟨_, rfl, Below.refl _ _, fun u h => Option.some.inj h, hZ.light (Below.refl _ _) (by decide)⟩
                  · intro ys done W aa hE hn hF hD hZ hG hO
                    replace hE : Below Q w21 W := hE
                    have hsz := Nat.le_trans hQ1 hE.size
                    have o10 := hO 10 (by kernel_rfl)
                    replace o10 : aa.tmps[10]? = some (.pointer (some ⟨n10, 0, none⟩)) := o10
                    have v0 := hF 0 (by decide) (hD 0 (by kernel_rfl))
                    replace v0 : ys 0 = .int .i64 k := v0 _ rfl
                    have f0 := hG 0 194 rfl (Nat.le_of_ble_eq_true rfl)
                    rw [v0] at f0
                    have hSW := TellsAt.on hS21.out (hE.mono hQ2)
                    obtain ⟨e0, e1, c0, c1, hgs, _⟩ := hst.out W hSW
                    go_wp2_with fail
                    exact ⟨_, rfl, Below.refl _ _, fun u h => Option.some.inj h, hZ.light (Below.refl _ _) (by decide)⟩
                  · intro ys done W aa hE hn hF hD hZ hG hO
                    replace hE : Below Q w21 W := hE
                    have hsz := Nat.le_trans hQ1 hE.size
                    have v1 := hF 1 (by decide) (hD 1 (by kernel_rfl))
                    replace v1 : ys 1 = .pointer (some ⟨n10, k, none⟩) := v1 _ rfl
                    have f1 := hG 1 195 rfl (Nat.le_of_ble_eq_true rfl)
                    rw [v1] at f1
                    have hSW := TellsAt.on hS21.out (hE.mono hQ2)
                    obtain ⟨e0, e1, c0, c1, hgs, _⟩ := hst.out W hSW
                    go_wp2_with fail
                    exact ⟨_, rfl, Below.refl _ _, fun u h => Option.some.inj h, hZ.light (Below.refl _ _) (by decide)⟩
                  · intro ys done W aa hE hn hF hD hZ hG hO
                    replace hE : Below Q w21 W := hE
                    have hsz := Nat.le_trans hQ1 hE.size
                    have o27 := hO 27 (by kernel_rfl)
                    replace o27 : aa.tmps[27]? = some (.int .i64 j) := o27
                    go_wp2_with fail
                    exact ⟨_, rfl, Below.refl _ _, fun u h => Option.some.inj h, hZ.light (Below.refl _ _) (by decide)⟩
                  · intro ys done W aa hE hn hF hD hZ hG hO
                    replace hE : Below Q w21 W := hE
                    have hsz := Nat.le_trans hQ1 hE.size
                    have v2 := hF 2 (by decide) (hD 2 (by kernel_rfl))
                    replace v2 : ys 2 = .slice (some ⟨g, o, none⟩) N cc := v2 _ rfl
                    have f2 := hG 2 196 rfl (Nat.le_of_ble_eq_true rfl)
                    rw [v2] at f2
                    have v3 := hF 3 (by decide) (hD 3 (by kernel_rfl))
                    replace v3 : ys 3 = .int .i64 j := v3 _ rfl
                    have f3 := hG 3 197 rfl (Nat.le_of_ble_eq_true rfl)
                    rw [v3] at f3
                    go_wp2_with fail
                    exact ⟨_, rfl, Below.refl _ _, fun u h => Option.some.inj h, hZ.light (Below.refl _ _) (by decide)⟩
                  · intro ys done W aa hE hn hF hD hZ hG hO
                    replace hE : Below Q w21 W := hE
                    have hsz := Nat.le_trans hQ1 hE.size
                    have v4 := hF 4 (by decide) (hD 4 (by kernel_rfl))
                    replace v4 : ys 4 = .pointer (some ⟨g, o + j * 2, none⟩) := v4 _ rfl
                    have f4 := hG 4 198 rfl (Nat.le_of_ble_eq_true rfl)
                    rw [v4] at f4
                    have hSW := TellsAt.on hS21.out (hE.mono hQ2)
                    obtain ⟨e0, e1, c0, c1, hgs, _⟩ := hst.out W hSW
                    go_wp2_with fail
                    exact ⟨_, rfl, Below.refl _ _, fun u h => Option.some.inj h, hZ.light (Below.refl _ _) (by decide)⟩
                  · intro ys done W aa hE hn hF hD hZ hG hO
                    replace hE : Below Q w21 W := hE
                    have hsz := Nat.le_trans hQ1 hE.size
                    have o12 := hO 12 (by kernel_rfl)
                    replace o12 : aa.tmps[12]? = some (.int .i64 k) := o12
                    go_wp2_with fail
                    exact ⟨_, rfl, Below.refl _ _, fun u h => Option.some.inj h, hZ.light (Below.refl _ _) (by decide)⟩
                  · intro ys done W aa hE hn hF hD hZ hG hO
                    replace hE : Below Q w21 W := hE
                    have hsz := Nat.le_trans hQ1 hE.size
                    have o11 := hO 11 (by kernel_rfl)
                    replace o11 : aa.tmps[11]? = some (.pointer (some ⟨n11, 0, none⟩)) := o11
                    have v6 := hF 6 (by decide) (hD 6 (by kernel_rfl))
                    replace v6 : ys 6 = .int .i64 k := v6 _ rfl
                    have f6 := hG 6 200 rfl (Nat.le_of_ble_eq_true rfl)
                    rw [v6] at f6
                    go_wp2_with fail
                    exact ⟨_, rfl, Below.refl _ _, fun u h => Option.some.inj h, hZ.light (Below.refl _ _) (by decide)⟩
                  · intro ys done W aa hE hn hF hD hZ hG hO
                    replace hE : Below Q w21 W := hE
                    have hsz := Nat.le_trans hQ1 hE.size
                    have v7 := hF 7 (by decide) (hD 7 (by kernel_rfl))
                    replace v7 : ys 7 = .pointer (some ⟨n11, k, none⟩) := v7 _ rfl
                    have f7 := hG 7 201 rfl (Nat.le_of_ble_eq_true rfl)
                    rw [v7] at f7
                    have hSW := TellsAt.on hS21.out (hE.mono hQ2)
                    obtain ⟨e0, e1, c0, c1, hgs, _⟩ := hst.out W hSW
                    go_wp2_with fail
                    exact ⟨_, rfl, Below.refl _ _, fun u h => Option.some.inj h, hZ.light (Below.refl _ _) (by decide)⟩
                  · intro ys done W aa hE hn hF hD hZ hG hO
                    replace hE : Below Q w21 W := hE
                    have hsz := Nat.le_trans hQ1 hE.size
                    have hSW := TellsAt.on hS21.out (hE.mono hQ2)
                    obtain ⟨e0, e1, c0, c1, hgs, _⟩ := hst.out W hSW
                    have v5 := hF 5 (by decide) (hD 5 (by kernel_rfl))
                    replace v5 : ys 5 = .agg #[.int .i64 s1, .int .i64 s2] := v5 _ rfl
                    have f5 := hG 5 199 rfl (Nat.le_of_ble_eq_true rfl)
                    rw [v5] at f5
                    have v8 := hF 8 (by decide) (hD 8 (by kernel_rfl))
                    replace v8 : ys 8 = .slice y M2 dd := v8 _ rfl
                    have f8 := hG 8 202 rfl (Nat.le_of_ble_eq_true rfl)
                    rw [v8] at f8
                    go_wp2_with fail
                    refine (kR.out W hSW).mono ?_
                    rintro e W2 ⟨rfl, hbc⟩
                    go_wp2_with fail
                    exact ⟨_, rfl, hbc.mono hsz, fun u h => Option.some.inj h, hZ.light hbc (by decide)⟩
                  · intro ys done W aa hE hn hF hD hZ hG hO
                    replace hE : Below Q w21 W := hE
                    have hsz := Nat.le_trans hQ1 hE.size
                    have v9 := hF 9 (by decide) (hD 9 (by kernel_rfl))
                    replace v9 : ys 9 = .tuple #[.agg #[.int .i64 u.we, .int .i64 u.wl], .bool b0] := v9 _ rfl
                    have f9 := hG 9 203 rfl (Nat.le_of_ble_eq_true rfl)
                    rw [v9] at f9
                    go_wp2_with fail
                    exact ⟨_, rfl, Below.refl _ _, fun u h => Option.some.inj h, hZ.light (Below.refl _ _) (by decide)⟩
                  · intro ys done W aa hE hn hF hD hZ hG hO
                    replace hE : Below Q w21 W := hE
                    have hsz := Nat.le_trans hQ1 hE.size
                    have v10 := hF 10 (by decide) (hD 10 (by kernel_rfl))
                    replace v10 : ys 10 = .tuple #[.agg #[.int .i64 u.we, .int .i64 u.wl], .bool b0] := v10 _ rfl
                    have f10 := hG 10 193 rfl (Nat.le_of_ble_eq_true rfl)
                    rw [v10] at f10
                    go_wp2_with fail
                    exact ⟨_, rfl, Below.refl _ _, fun u h => Option.some.inj h, hZ.light (Below.refl _ _) (by decide)⟩
                  · intro ys done W aa hE hn hF hD hZ hG hO
                    replace hE : Below Q w21 W := hE
                    have hsz := Nat.le_trans hQ1 hE.size
                    have v10 := hF 10 (by decide) (hD 10 (by kernel_rfl))
                    replace v10 : ys 10 = .tuple #[.agg #[.int .i64 u.we, .int .i64 u.wl], .bool b0] := v10 _ rfl
                    have f10 := hG 10 193 rfl (Nat.le_of_ble_eq_true rfl)
                    rw [v10] at f10
                    go_wp2_with fail
                    exact ⟨_, rfl, Below.refl _ _, fun u h => Option.some.inj h, hZ.light (Below.refl _ _) (by decide)⟩
                  · intro ys done W aa hE hn hF hD hZ hG hO
                    replace hE : Below Q w21 W := hE
                    have hsz := Nat.le_trans hQ1 hE.size
                    go_wp2_with fail
                    exact ⟨_, rfl, (Below.refl _ _).alloc hsz _, fun u h => (by cases h), hZ.new hn hsz⟩
                  · intro ys done W aa hE hn hF hD hZ hG hO
                    replace hE : Below Q w21 W := hE
                    have hsz := Nat.le_trans hQ1 hE.size
                    obtain ⟨gn, za, zb, ze, hgN, hA, _⟩ := hZ.one (hD 13 (by kernel_rfl))
                    have f13 := hG 13 34 rfl (Nat.le_of_ble_eq_true rfl)
                    rw [ze] at f13
                    unfold bptr at f13
                    have v11 := hF 11 (by decide) (hD 11 (by kernel_rfl))
                    replace v11 : ys 11 = .agg #[.int .i64 u.we, .int .i64 u.wl] := v11 _ rfl
                    have f11 := hG 11 204 rfl (Nat.le_of_ble_eq_true rfl)
                    rw [v11] at f11
                    have a0 := hA.cell 0
                    have a1 := hA.cell 1
                    simp at a0 a1
                    have hf := hA.free
                    have hgi := hA.inside
                    go_wp2_with fail
                    exact ⟨((Below.refl _ _).setCell (show Q ≤ (⟨gn, 0, none⟩ : Addr).block from hgN) _).setCell (show Q ≤ (⟨gn, 1, none⟩ : Addr).block from hgN) _, undef, fun u h => (by cases h), hZ.put (hD 13 (by kernel_rfl)) ze hgN hA⟩
                case hQ22 =>
                  intro ys w22 hE hF hZ
                  obtain ⟨done, hd, hZ⟩ := hZ
                  have v0 : ys 0 = .int .i64 k := hF 0 (by decide) _ rfl
                  have v1 : ys 1 = .pointer (some ⟨n10, k, none⟩) := hF 1 (by decide) _ rfl
                  have v2 : ys 2 = .slice (some ⟨g, o, none⟩) N cc := hF 2 (by decide) _ rfl
                  have v3 : ys 3 = .int .i64 j := hF 3 (by decide) _ rfl
                  have v4 : ys 4 = .pointer (some ⟨g, o + j * 2, none⟩) := hF 4 (by decide) _ rfl
                  have v5 : ys 5 = .agg #[.int .i64 s1, .int .i64 s2] := hF 5 (by decide) _ rfl
                  have v6 : ys 6 = .int .i64 k := hF 6 (by decide) _ rfl
                  have v7 : ys 7 = .pointer (some ⟨n11, k, none⟩) := hF 7 (by decide) _ rfl
                  have v8 : ys 8 = .slice y M2 dd := hF 8 (by decide) _ rfl
                  have v9 : ys 9 = .tuple #[.agg #[.int .i64 u.we, .int .i64 u.wl], .bool b0] := hF 9 (by decide) _ rfl
                  have v10 : ys 10 = .tuple #[.agg #[.int .i64 u.we, .int .i64 u.wl], .bool b0] := hF 10 (by decide) _ rfl
                  have v11 : ys 11 = .agg #[.int .i64 u.we, .int .i64 u.wl] := hF 11 (by decide) _ rfl
                  have v12 : ys 12 = .bool b0 := hF 12 (by decide) _ rfl
                  obtain ⟨g22, za, zb, ze, hgN, hA, h14⟩ := hZ.one (hd 13 (by decide))
                  obtain ⟨ea, eb⟩ := h14 (hd 14 (by decide))
                  rw [ea, eb] at hA
                  replace hE : Below Q w21 w22 := hE
                  have hbb := hE.mono hQ2
                  have hP22 := Lib.hid hA
                  have hS22 := Lib.hid (TellsAt.on hS21.out hbb)
                  have hP19 := Lib.hid (hP19.out.keep hbb hP19.out.inside)
                  have hP20 := Lib.hid (hP20.out.keep hbb hP20.out.inside)
                  have hP21 := Lib.hid (hP21.out.keep hbb hP21.out.inside)
                  simp only [List.take_succ_cons, List.take_zero, List.drop_succ_cons, List.drop_zero, Sched.fill, v0, v1, v2, v3, v4, v5, v6, v7, v8, v9, v10, v11, v12, ze]
                  clear v0 v1 v2 v3 v4 v5 v6 v7 v8 v9 v10 v11 v12 ze ea eb h14 hZ hd hF hE hbb hA hgN hQ1 hQ2
                  simp only [bptr]
                  go_upto_region 23 with fail
                  have y190 := hP19.out.cell 0
                  have y191 := hP19.out.cell 1
                  have y19n := hP19.out.inside
                  simp at y190 y191
                  have y200 := hP20.out.cell 0
                  have y201 := hP20.out.cell 1
                  have y20n := hP20.out.inside
                  simp at y200 y201
                  have y210 := hP21.out.cell 0
                  have y211 := hP21.out.cell 1
                  have y21n := hP21.out.inside
                  simp at y210 y211
                  have y220 := hP22.out.cell 0
                  have y221 := hP22.out.cell 1
                  have y22n := hP22.out.inside
                  simp at y220 y221
                  go_wp2
                  go_roundw
                  case rel => exact ⟨j + 1, by go_num, hj2, hS22.out⟩
                  case measure => simp [intOf]; omega
        · obtain rfl : j = N := by omega
          go_wp2
          go_roundw
          case rel => exact ⟨k + 1, by go_num, hlt, hS18.out⟩
          case measure => simp [intOf]; omega
    · obtain rfl : k = 3 := by omega
      have hB := Lib.hid hS.below
      clear hS
      go_wp2_with fail
      refine (works_any wr).mono ?_
      rintro e w5 ⟨rfl, hb5⟩
      have hB5 := Lib.hid (hB.out.trans (hb5.mono hB.out.size))
      clear hb5
      go_wp2
      go_ret
      exact ⟨rfl, hB5.out⟩

set_option maxRecDepth 100000 in
theorem lifted (os : Os) (started : os.Started) (H : Type) (enc : TypeId × Value → H) :
    ReturnsInHanded {} Try.checked os 3 .any (Rows.schedTellsSpec.pre6 enc Try.prog Try.f3 Rows.schedTellsRow.domain false) (Rows.schedTellsSpec.post enc Try.prog Try.f3 false true false false) := by
  refine returnsInHanded_of_change (C := Try.checked) own started (by kernel_rfl) Try.func3
    (ChangeSpec.witness6 (enc := enc) (C := Try.checked) false ⟨#[], #[.agg #[.slice none 0 0, .int .u8 0, .int .u8 0, .int .i64 0], .slice none 0 0, .slice none 0 0], []⟩ 8 (by kernel_rfl) (by kernel_rfl) (by kernel_rfl) (by kernel_rfl)) ?_
  intro W base args ds gs before hval0 hW hcnd _
  have hval : ∀ (j : Nat) t v, Try.f3.params[j]? = some t → args[j]? = some v → Value.okWide Try.prog W .any base t v := hval0
  have hW' := hW
  obtain ⟨p, q, hA0, hV, rfl, hfz, hnd⟩ := hW
  have hA : DataW.TrodAll enc Try.prog W 0 (fun _ => true) true Try.f3.params.toList args.toList ds p := hA0
  rw [Try.params3] at hA hval
  obtain ⟨v0, vs0, d0, ds0, p0, q0, hargs, rfl, rfl, h0, r0⟩ := trodAll_cons hA
  obtain ⟨v1, vs1, d1, ds1, p1, q1, rfl, rfl, rfl, h1, r1⟩ := trodAll_cons r0
  obtain ⟨v2, vs2, d2, ds2, p2, q2, rfl, rfl, rfl, h2, r2⟩ := trodAll_cons r1
  obtain ⟨rfl, rfl, rfl⟩ := trodAll_nil r2
  obtain rfl : args = #[v0, v1, v2] := by cases args; simp_all
  obtain ⟨rfl, rfl⟩ := trodVars_none hV
  obtain ⟨xb, Nb, cb, bs, a, b, k, rfl, hrow, hby, ha, hb⟩ := openDraft (hval 0 24 v0 rfl rfl) h0
  obtain ⟨l, hl, hnum⟩ := openStops (hval 1 25 v1 rfl rfl) h1
  obtain ⟨t, ht⟩ := openRqs (hval 2 26 v2 rfl rfl) h2
  exact (walk xb Nb cb bs a b k hby ha hb _ _ l t hnum W hrow hl ht).mono fun e W' ⟨he, hb⟩ => ⟨_, he, Close.law_post laidOut (by kernel_rfl) rfl (by kernel_rfl) Try.underlying4 hW' rfl hb⟩

theorem over : Rows.schedTellsRow.holds Try.pinned (OpenSpec.ofChange Rows.schedTellsSpec) :=
  OpenClaim.holds_of_wide 3 Try.f3 rfl rfl rfl rfl rfl rfl rfl ⟨rfl, rfl, rfl, rfl, rfl⟩ rfl rfl rfl rfl rfl (by kernel_rfl) Try.func3 (by kernel_rfl)
    (of_decide_eq_true (by kernel_rfl)) (by unfold Func.isWrapper; first | (rw [if_pos (by decide +kernel)]; kernel_rfl) | (rw [if_neg (by decide +kernel)]; exact ⟨rfl, rfl⟩))
    (fun os started H enc _ => lifted os started H enc)

theorem proved : Rows.SchedTellsSaid := over
#print axioms proved

end Go.Proofs.Ytphpkcndaifoiaa.schedTells

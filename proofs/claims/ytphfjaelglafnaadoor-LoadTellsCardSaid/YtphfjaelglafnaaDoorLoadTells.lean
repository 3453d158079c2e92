/-
  LoadTells returns true for all drafts, vehicles and numbers: what is on board behind each stop, the most of it, whether it fits, and what is open, is as the document says; or why not: of routes that are drawn, of these with one stop or one request otherwise, and of any stops. Its condition: package load's variable signs is as the program's text lays it when the call begins, which the card ties to that text.
-/
import Derived.Test.YtphfjaelglafnaaDoorLoadParts
import Derived.Test.YtphfjaelglafnaaDoorLoadRefProf
import Derived.Test.YtphfjaelglafnaaDoorLoadArgs
import Derived.Test.YtphfjaelglafnaaDoorLoadSgn
namespace Go.Proofs.YtphfjaelglafnaaDoor.loadTells
open Go.ChangeShapes Go.WideShapes Go.ChangeAt Go.RowKit Go.Sort Go.Proofs.YtphfjaelglafnaaDoor.Mem Go.Proofs.YtphfjaelglafnaaDoor.Route Go.Proofs.YtphfjaelglafnaaDoor.When Go.Proofs.YtphfjaelglafnaaDoor.Load Go.Proofs.YtphfjaelglafnaaDoor.Laid
set_option linter.unusedVariables false

section
variable {H : Type} {enc : TypeId × Value → H} {w : World} {base : Nat} {spare : Nat → Bool} {held : Bool}
theorem cS8 : Tryd.prog.cellsOf 23 = 1 := by kernel_rfl
theorem cS16 : Tryd.prog.cellsOf 22 = 1 := by kernel_rfl
theorem cSSt : Tryd.prog.cellsOf 26 = 1 := by kernel_rfl
theorem cA3 : Tryd.prog.cellsOf 25 = 3 := by kernel_rfl
theorem cPl : Tryd.prog.cellsOf 30 = 2 := by kernel_rfl
theorem list7 {α : Type} {cs : Array α} (h : cs.size = 7) : ∃ c0 c1 c2 c3 c4 c5 c6, cs = #[c0, c1, c2, c3, c4, c5, c6] := by
  obtain ⟨l⟩ := cs
  match l, h with
  | [c0, c1, c2, c3, c4, c5, c6], _ => exact ⟨c0, c1, c2, c3, c4, c5, c6, rfl⟩
theorem list5 {α : Type} {cs : Array α} (h : cs.size = 5) : ∃ c0 c1 c2 c3 c4, cs = #[c0, c1, c2, c3, c4] := by
  obtain ⟨l⟩ := cs
  match l, h with
  | [c0, c1, c2, c3, c4], _ => exact ⟨c0, c1, c2, c3, c4, rfl⟩
theorem elemL {P : Program} {t e : TypeId} {m fuel : Nat} {cs : List Value} {x : DataW H × List MemPlace} (ht : P.underlying t = some (.array m e)) (h : DataW.trod enc P w base spare held fuel t cs = some x) {i : Nat} (hi : i < m) :
    ∃ n y, DataW.trod enc P w base spare held n e ((cs.drop (i * P.cellsOf e)).take (P.cellsOf e)) = some y := by
  obtain ⟨ys, n, _, _, _, hlen, hel⟩ := DataW.trod_array ht h
  have h1 := hel i hi
  rw [List.getElem?_eq_getElem (by omega)] at h1
  exact ⟨n, _, h1⟩
set_option maxRecDepth 100000 in
theorem openVeh {r : Reach} {b0 : Nat} {v : Value} {d : DataW H} {p : List MemPlace} (hv : Value.okWide Tryd.prog w r b0 32 v) (h : DataW.Trod enc Tryd.prog w base spare held 32 v d p) :
    ∃ x : Vh, v = .agg #[.int .i64 x.hx, .int .i64 x.hy, .int .i64 x.cp, .int .i64 x.st, .int .i64 x.en] := by
  obtain ⟨cs, rfl, hsz⟩ := okWide_struct Tryd.underlying32 hv
  obtain ⟨c0, c1, c2, c3, c4, rfl⟩ := list5 (hsz.trans (by kernel_rfl))
  obtain ⟨fuel, hf⟩ := h
  obtain ⟨_, _, h0⟩ := fieldS (i := 0) Tryd.underlying32 hf rfl
  obtain ⟨_, _, h1⟩ := fieldS (i := 1) Tryd.underlying32 hf rfl
  obtain ⟨_, _, h2⟩ := fieldS (i := 2) Tryd.underlying32 hf rfl
  obtain ⟨_, _, h3⟩ := fieldS (i := 3) Tryd.underlying32 hf rfl
  simp [Value.cells, cellsI, cPl] at h0 h1 h2 h3
  obtain ⟨_, _, e0⟩ := fieldS (i := 0) Tryd.underlying30 h0 rfl
  obtain ⟨_, _, e1⟩ := fieldS (i := 1) Tryd.underlying30 h0 rfl
  simp [cellsI] at e0 e1
  obtain ⟨hx, rfl, _⟩ := i64_of e0
  obtain ⟨hy, rfl, _⟩ := i64_of e1
  obtain ⟨cp, rfl, _⟩ := i64_of h1
  obtain ⟨st, rfl, _⟩ := i64_of h2
  obtain ⟨en, rfl, _⟩ := i64_of h3
  exact ⟨⟨hx, hy, cp, st, en⟩, rfl⟩
set_option maxRecDepth 100000 in
theorem openDrawn {r : Reach} {b0 : Nat} {v : Value} {d : DataW H} {p : List MemPlace} (hv : Value.okWide Tryd.prog w r b0 28 v) (h : DataW.Trod enc Tryd.prog w base spare held 28 v d p) :
    ∃ (vL vB vS : Value) (cp t0 t1 t2 : Int) (ns bs : List Int) (l : List (Int × Int)), v = .agg #[vL, vB, .int .u16 cp, .int .u8 t0, .int .u8 t1, .int .u8 t2, vS] ∧ (0 ≤ cp ∧ cp < 65536) ∧ (0 ≤ t0 ∧ t0 ≤ 255) ∧ (0 ≤ t1 ∧ t1 ≤ 255) ∧ (0 ≤ t2 ∧ t2 ≤ 255) ∧ (∀ x ∈ ns, 0 ≤ x ∧ x < 65536) ∧ (∀ x ∈ bs, 0 ≤ x ∧ x < 256) ∧ Nums l
      ∧ RowB w.heap.size w vL 1 (ns.map wdV) ∧ RowB w.heap.size w vB 1 (bs.map byV) ∧ Row w.heap.size w vS l := by
  obtain ⟨cs, rfl, hsz⟩ := okWide_struct Tryd.underlying28 hv
  obtain ⟨c0, c1, c2, c3, c4, c5, c6, rfl⟩ := list7 (hsz.trans (by kernel_rfl))
  obtain ⟨fuel, hf⟩ := h
  obtain ⟨_, _, h0⟩ := fieldS (i := 0) Tryd.underlying28 hf rfl
  obtain ⟨_, _, h1⟩ := fieldS (i := 1) Tryd.underlying28 hf rfl
  obtain ⟨_, _, h2⟩ := fieldS (i := 2) Tryd.underlying28 hf rfl
  obtain ⟨_, _, h3⟩ := fieldS (i := 3) Tryd.underlying28 hf rfl
  obtain ⟨_, _, h4⟩ := fieldS (i := 4) Tryd.underlying28 hf rfl
  simp [Value.cells, cS8, cS16, cSSt, cA3, cellsU16] at h0 h1 h2 h3 h4
  obtain ⟨_, _, e0⟩ := elemL (i := 0) Tryd.underlying25 h3 (by decide)
  obtain ⟨_, _, e1⟩ := elemL (i := 1) Tryd.underlying25 h3 (by decide)
  obtain ⟨_, _, e2⟩ := elemL (i := 2) Tryd.underlying25 h3 (by decide)
  simp [cellsU8] at e0 e1 e2
  obtain ⟨ns, n1, n2⟩ := Load.rowWords h0
  obtain ⟨bs, hb1, hb2⟩ := rows_of (f := byV) (g := fun x => 0 ≤ x ∧ x < 256) Tryd.underlying23 cellsU8 (by decide) (fun n cs y hy hl => by
    obtain ⟨a, rfl⟩ := list1T hl
    obtain ⟨n, rfl, hn⟩ := u8_of hy
    exact ⟨n, rfl, hn⟩) h1
  obtain ⟨cp, rfl, hc⟩ := u16_of h2
  obtain ⟨l, l1, l2⟩ := rows_of (f := stV) (g := fun s => I64 s.1 ∧ I64 s.2) Tryd.underlying26 cellsSt (by decide) (fun n cs y hy hl => by
    obtain ⟨a, b, rfl⟩ := list2T hl
    obtain ⟨_, _, h0⟩ := fieldS (i := 0) Tryd.underlying58 hy rfl
    obtain ⟨_, _, h1⟩ := fieldS (i := 1) Tryd.underlying58 hy rfl
    obtain ⟨x, rfl, hx⟩ := i64_of (by simpa [cellsI] using h0)
    obtain ⟨z, rfl, hz⟩ := i64_of (by simpa [cellsI] using h1)
    exact ⟨(x, z), rfl, hx, hz⟩) h4
  obtain ⟨t0, rfl, ht0⟩ := u8_of e0
  obtain ⟨t1, rfl, ht1⟩ := u8_of e1
  obtain ⟨t2, rfl, ht2⟩ := u8_of e2
  exact ⟨c0, c1, c6, cp, t0, t1, t2, ns, bs, l, rfl, hc, by omega, by omega, by omega, n2, hb2, l2, n1, hb1, l1⟩
end

theorem profV_len {l : List (Int × Int)} {t : List Rq} (h : l.length ≤ 30) : (profV l t).length ≤ 140737488351232 := by
  unfold profV
  split
  · rw [prof_length]; omega
  · simp
theorem opAt_len {l : List (Int × Int)} (h : l.length ≤ 30) (k : Int) : (Load.opAt l k).length ≤ 140737488351232 := by
  have h1 := opL_length (l.take (kN l k))
  have h2 : (l.take (kN l k)).length ≤ l.length := by rw [List.length_take]; omega
  unfold Load.opAt
  omega
theorem ints_yes (sv tv : Value) (xs : List Int) (hx : xs.length ≤ 140737488351232) (w : World) (hI : Ints w.heap.size w sv xs) (hJ : Ints w.heap.size w tv xs) :
    Calls Tryd.prog 12 #[sv, tv] w fun e w' => e = .returned (.bool true) ∧ Below w.heap.size w w' := by
  have := ints_any sv tv xs xs hx w hI hJ
  rwa [show decide (xs = xs) = true by simp] at this

set_option maxRecDepth 100000 in
set_option maxHeartbeats 8000000 in
theorem walk (vL vB vS : Value) (cp t0 t1 t2 : Int) (hcp : 0 ≤ cp ∧ cp < 65536) (ht0 : 0 ≤ t0 ∧ t0 ≤ 255) (ht1 : 0 ≤ t1 ∧ t1 ≤ 255) (ht2 : 0 ≤ t2 ∧ t2 ≤ 255) (ns bs : List Int) (l : List (Int × Int)) (hn : ∀ x ∈ ns, 0 ≤ x ∧ x < 65536) (hb : ∀ x ∈ bs, 0 ≤ x ∧ x < 256) (hnum : Nums l) (v : Vh) (k : Int) (w : World) (hsg : Sg w)
    (hL : RowB w.heap.size w vL 1 (ns.map wdV)) (hBs : RowB w.heap.size w vB 1 (bs.map byV)) (hS : Row w.heap.size w vS l) :
    Calls Tryd.prog 3 #[.agg #[vL, vB, .int .u16 cp, .int .u8 t0, .int .u8 t1, .int .u8 t2, vS], .agg #[.int .i64 v.hx, .int .i64 v.hy, .int .i64 v.cp, .int .i64 v.st, .int .i64 v.en], .int .i64 k] w fun e w' => e = .returned (.bool true) ∧ Below w.heap.size w w' := by
  have hP := Lib.hid (fun w' (hb' : Below w.heap.size w w') => parts_any vL vB vS cp t0 t1 t2 ht0 ht1 ht2 ns bs l hn hb hnum w' ((hL.keep hb' (Nat.le_refl _)).more hb'.size) ((hBs.keep hb' (Nat.le_refl _)).more hb'.size) ((hS.keep hb' (Nat.le_refl _)).more hb'.size))
  obtain ⟨xS, NS, cS, rfl⟩ : ∃ x n c, vS = .slice x n c := by obtain ⟨x, c, e, _⟩ := hS; exact ⟨_, _, _, e⟩
  obtain ⟨xL, NL, cL, rfl⟩ : ∃ x n c, vL = .slice x n c := by obtain ⟨x, c, e, _⟩ := hL; exact ⟨_, _, _, e⟩
  obtain ⟨xB, NB, cB, rfl⟩ : ∃ x n c, vB = .slice x n c := by obtain ⟨x, c, e, _⟩ := hBs; exact ⟨_, _, _, e⟩
  clear hL hBs hS hn hb hnum ht0 ht1 ht2
  obtain ⟨n, hn⟩ : ∃ n, w.heap.size = n := ⟨_, rfl⟩
  obtain ⟨w1, hw1⟩ : ∃ w1, (w.alloc (.cells #[.slice xL NL cL, .slice xB NB cB, .int .u16 cp, .int .u8 t0, .int .u8 t1, .int .u8 t2, .slice xS NS cS] 28)).alloc (.cells #[.int .i64 v.hx, .int .i64 v.hy, .int .i64 v.cp, .int .i64 v.st, .int .i64 v.en] 32) = w1 := ⟨_, rfl⟩
  have hA0 : At w1 n 28 #[.slice xL NL cL, .slice xB NB cB, .int .u16 cp, .int .u8 t0, .int .u8 t1, .int .u8 t2, .slice xS NS cS] := by rw [← hw1]; exact (At.new_ _ _ _ hn.symm).alloc _
  have hV0 : At w1 (n + 1) 32 #[.int .i64 v.hx, .int .i64 v.hy, .int .i64 v.cp, .int .i64 v.st, .int .i64 v.en] := by rw [← hw1]; exact At.new_ _ _ _ (by simp [hn])
  have hB1 : Below w.heap.size w w1 := by rw [← hw1]; exact ((Below.refl _ _).alloc (Nat.le_refl _) _).alloc (by simp) _
  have hw1' := Lib.hid hw1
  have hn' := Lib.hid hn
  clear hw1
  have c0 := hA0.cell 0
  have c1 := hA0.cell 1
  have c2 := hA0.cell 2
  have c3 := hA0.cell 3
  have c4 := hA0.cell 4
  have c5 := hA0.cell 5
  have c6 := hA0.cell 6
  simp at c0 c1 c2 c3 c4 c5 c6
  have hai := hA0.inside
  have hvi := hV0.inside
  go_enter Tryd.func3, Tryd.ntmps3
  go_upto_region 1 with fail
  rw [hw1'.out]
  go_wp2_with fail
  refine (hP.out w1 hB1).mono ?_
  rintro e w2 ⟨⟨u, r0, r1, r2, rfl, ⟨T, hT⟩, hr0, hr1, hr2⟩, hb2⟩
  have hB2 := hB1.trans (hb2.mono hB1.size)
  have hA2 := hA0.keep hb2 hai
  have hV2 := hV0.keep hb2 hvi
  have hT2 := Lib.hid hT
  have hr0' := Lib.hid hr0
  have hr1' := Lib.hid hr1
  have hr2' := Lib.hid hr2
  obtain ⟨xT, NT, cT, rfl⟩ : ∃ x n c, u = .slice x n c := by obtain ⟨x, c, e, _⟩ := hT; exact ⟨_, _, _, e⟩
  obtain ⟨l0, ⟨x0, k0, e0, _⟩, _⟩ := hr0
  obtain ⟨l1, ⟨x1, k1, e1, _⟩, _⟩ := hr1
  obtain ⟨l2, ⟨x2, k2, e2, _⟩, _⟩ := hr2
  generalize (l0.map stV).length = n0 at e0
  generalize (l1.map stV).length = n1 at e1
  generalize (l2.map stV).length = n2 at e2
  subst e0
  subst e1
  subst e2
  have hai2 := hA2.inside
  have hvi2 := hV2.inside
  clear hP hb2 hT hA0 hV0 c0 c1 c2 c3 c4 c5 c6 hai hvi hB1
  obtain ⟨p, hp⟩ : ∃ p, w2.heap.size = p := ⟨_, rfl⟩
  have hp' := Lib.hid hp
  go_upto_region 2 with fail
  have hG3 : At (w2.alloc (.cells #[.slice x0 n0 k0, .slice x1 n1 k1, .slice x2 n2 k2] 34)) p 34 #[.slice x0 n0 k0, .slice x1 n1 k1, .slice x2 n2 k2] := At.new_ _ _ _ hp.symm
  have hb3 : Below w2.heap.size w2 (w2.alloc (.cells #[.slice x0 n0 k0, .slice x1 n1 k1, .slice x2 n2 k2] 34)) := (Below.refl _ _).alloc (Nat.le_refl _) _
  obtain ⟨w3, hw3⟩ : ∃ w3, (w2.alloc (.cells #[.slice x0 n0 k0, .slice x1 n1 k1, .slice x2 n2 k2] 34)) = w3 := ⟨_, rfl⟩
  rw [hw3] at hG3 hb3 ⊢
  clear hw3
  have hA3 := hA2.keep hb3 hai2
  have hV3 := hV2.keep hb3 hvi2
  have hB3 := hB2.trans (hb3.mono hB2.size)
  have d2 := hA3.cell 2
  simp at d2
  have hX1 : 0 ≤ cp % 6000 := Int.emod_nonneg _ (by omega)
  have hX2 : cp % 6000 < 6000 := Int.emod_lt_of_pos _ (by omega)
  have hcp0 := hcp.1
  have hgi := hG3.inside
  have hvi3 := hV3.inside
  obtain ⟨q, hq⟩ : ∃ q, w3.heap.size = q := ⟨_, rfl⟩
  have hq' := Lib.hid hq
  clear hA2 hV2 hA3 hai2 hvi2 hB2
  go_upto_region 3 with fail
  obtain ⟨C, hC⟩ : ∃ C, 1 + cp % 6000 = C := ⟨_, rfl⟩
  rw [hC]
  have hW4 : At (w3.alloc (.cells #[.int .i64 0, .int .i64 0, .int .i64 C, .int .i64 0, .int .i64 0] 32)) q 32 #[.int .i64 0, .int .i64 0, .int .i64 C, .int .i64 0, .int .i64 0] := At.new_ _ _ _ hq.symm
  have hb4 : Below w3.heap.size w3 (w3.alloc (.cells #[.int .i64 0, .int .i64 0, .int .i64 C, .int .i64 0, .int .i64 0] 32)) := (Below.refl _ _).alloc (Nat.le_refl _) _
  obtain ⟨w4, hw4⟩ : ∃ w4, (w3.alloc (.cells #[.int .i64 0, .int .i64 0, .int .i64 C, .int .i64 0, .int .i64 0] 32)) = w4 := ⟨_, rfl⟩
  rw [hw4] at hW4 hb4 ⊢
  have hG4 := Lib.hid (hG3.keep hb4 hgi)
  have hV4 := Lib.hid (hV3.keep hb4 hvi3)
  have hW4' := Lib.hid hW4
  have hB4 := hB3.trans (hb4.mono hB3.size)
  have h24 : Below w2.heap.size w2 w4 := hb3.trans (hb4.mono hb3.size)
  have hT4 := Lib.hid (RowB.on hT2.out h24 : Rqs w4.heap.size w4 (.slice xT NT cT) T)
  have hsg4 := hsg.on hB4
  have ia : ∀ j : Nat, j < 3 → ∃ (xk : Option Addr) (nk ck : Nat) (lk : List (Int × Int)), w4.cell? ⟨p, j, none⟩ = some (.slice xk nk ck) ∧ Hid (Row w4.heap.size w4 (.slice xk nk ck) lk ∧ Nums lk ∧ lk.length ≤ 30) := by
    intro j hj
    have g0 := hG4.out.cell 0
    have g1 := hG4.out.cell 1
    have g2 := hG4.out.cell 2
    simp at g0 g1 g2
    match j, hj with
    | 0, _ => obtain ⟨lk, h⟩ := hr0'.out.on h24; exact ⟨x0, n0, k0, lk, g0, Lib.hid h⟩
    | 1, _ => obtain ⟨lk, h⟩ := hr1'.out.on h24; exact ⟨x1, n1, k1, lk, g1, Lib.hid h⟩
    | 2, _ => obtain ⟨lk, h⟩ := hr2'.out.on h24; exact ⟨x2, n2, k2, lk, g2, Lib.hid h⟩
  have ia' := Lib.hid ia
  clear ia hW4 hw4 hC hq hX1 hX2 hcp0 hgi hvi3 hG3 hV3 hb3 hb4 h24 d2 hB3 hr0' hr1' hr2' hT2 hcp hp hsg
  go_wp2
  go_loopw [10] (fun i wr => ∃ j : Nat, j ≤ 3 ∧ i = .int .i64 j ∧ Below w4.heap.size w4 wr) (fun i _ => 3 - (intOf i).toNat)
  case atStart => exact ⟨0, by omega, rfl, Below.refl _ _⟩
  case round =>
    obtain ⟨j, hj, rfl, hbw⟩ := hrel
    have hBw := hB4.trans (hbw.mono hB4.size)
    have hws := hbw.size
    by_cases hlt : j < 3
    · obtain ⟨xk, nk, ck, lk, hc0, hrow⟩ := ia'.out j hlt
      have hc := (hbw.cell (p := ⟨p, j, none⟩) (hG4.out.inside)).trans hc0
      have hrw := Lib.hid (hrow.out.1.on hbw)
      have hTw := Lib.hid (hT4.out.on hbw)
      have hsw := hsg4.on hbw
      have hlk := hrow.out.2.2
      have hnk := hrow.out.2.1
      have cA := Profile_all (.slice xk nk ck) (.slice xT NT cT) lk T (by omega) hnk wr hsw hrw.out hTw.out
      have cB := Lib.hid (fun w' (hb' : Below wr.heap.size wr w') => refProfile_any (.slice xk nk ck) (.slice xT NT cT) lk T (by omega) w' (hrw.out.on hb') (hTw.out.on hb'))
      have cC := Lib.hid (fun w' (hb' : Below wr.heap.size wr w') => Peak_any (.slice xk nk ck) (.slice xT NT cT) lk T (by omega) hnk w' (hsw.on hb') (hrw.out.on hb') (hTw.out.on hb'))
      have cD := Lib.hid (fun w' (hb' : Below wr.heap.size wr w') => refPeak_any (.slice xk nk ck) (.slice xT NT cT) lk T (by omega) w' (hrw.out.on hb') (hTw.out.on hb'))
      have cE := Lib.hid (fun (x : Vh) w' (hb' : Below wr.heap.size wr w') => Fits_any x (.slice xk nk ck) (.slice xT NT cT) lk T (by omega) hnk w' (hsw.on hb') (hrw.out.on hb') (hTw.out.on hb'))
      have cF := Lib.hid (fun (x : Vh) w' (hb' : Below wr.heap.size wr w') => refFits_any x (.slice xk nk ck) (.slice xT NT cT) lk T (by omega) w' (hrw.out.on hb') (hTw.out.on hb'))
      have cG := Lib.hid (fun (z : Int) w' (hb' : Below wr.heap.size wr w') => Open_any (.slice xk nk ck) lk (by omega) hnk z w' (hrw.out.on hb'))
      have cH := Lib.hid (fun (z : Int) w' (hb' : Below wr.heap.size wr w') => refOpen_any (.slice xk nk ck) lk (by omega) z w' (hrw.out.on hb'))
      have hpl := Lib.hid (profV_len (t := T) hlk)
      have hol := Lib.hid (opAt_len hlk)
      obtain ⟨P, hP⟩ : ∃ P, profV lk T = P := ⟨_, rfl⟩
      obtain ⟨E, hE⟩ : ∃ E, toldV lk T = E := ⟨_, rfl⟩
      obtain ⟨K, hK⟩ : ∃ K, peakV lk T = K := ⟨_, rfl⟩
      rw [hP, hE] at cA
      simp only [hP, hE, hK] at cB cC cD hpl
      clear hP hE hK hc0 hrow hlk hnk hsw hrw hTw
      go_wp2_with fail
      refine cA.mono ?_
      clear cA
      rintro e y1 ⟨⟨a1, rfl, ha1, -, -⟩, hy1⟩
      have ha1' := Lib.hid ha1
      obtain ⟨z1, m1, d1, rfl, _, _, _⟩ := ha1.opened
      clear ha1
      go_wp2_with fail
      refine (cB.out y1 hy1).mono ?_
      rintro e y2 ⟨⟨a2, rfl, ha2⟩, hy2⟩
      have ha2' := Lib.hid ha2
      obtain ⟨z2, m2, d2, rfl, _, _, _⟩ := ha2.opened
      have hY2 := hy1.trans (hy2.mono hy1.size)
      have ha1y2 := Lib.hid (ha1'.out.on hy2)
      clear ha2 hy1 hy2 ha1' cB
      go_wp2_with fail
      refine (cC.out y2 hY2).mono ?_
      rintro e y3 ⟨rfl, hy3⟩
      have hY3 := hY2.trans (hy3.mono hY2.size)
      have ha1y3 := Lib.hid (ha1y2.out.on hy3)
      have ha2y3 := Lib.hid (ha2'.out.on hy3)
      clear hy3 hY2 ha1y2 ha2' cC
      go_wp2_with fail
      refine (cD.out y3 hY3).mono ?_
      rintro e y4 ⟨rfl, hy4⟩
      have hY4 := hY3.trans (hy4.mono hY3.size)
      have ha1y4 := ha1y3.out.on hy4
      have ha2y4 := ha2y3.out.on hy4
      clear hy4 hY3 ha1y3 ha2y3 cD
      go_wp2_with fail
      refine (ints_yes _ _ P hpl.out y4 ha1y4 ha2y4).mono ?_
      rintro e y5 ⟨rfl, hy5⟩
      have hY5 := hY4.trans (hy5.mono hY4.size)
      clear hy5 hY4 ha1y4 ha2y4
      have hb45 := hbw.trans (hY5.mono hws)
      have hV5 := hV4.out.keep hb45 hV4.out.inside
      have hW5 := hW4'.out.keep hb45 hW4'.out.inside
      have v0 := hV5.cell 0
      have v1 := hV5.cell 1
      have v2 := hV5.cell 2
      have v3 := hV5.cell 3
      have v4 := hV5.cell 4
      have u0 := hW5.cell 0
      have u1 := hW5.cell 1
      have u2 := hW5.cell 2
      have u3 := hW5.cell 3
      have u4 := hW5.cell 4
      simp at v0 v1 v2 v3 v4 u0 u1 u2 u3 u4
      go_upto_region 14 with fail
      have ix0 : ∀ w, (Instr.index 44 (.agg #[.int .i64 v.hx, .int .i64 v.hy, .int .i64 v.cp, .int .i64 v.st, .int .i64 v.en, .int .i64 0, .int .i64 0, .int .i64 C, .int .i64 0, .int .i64 0]) (.int .i64 0)).run Tryd.prog w = .ok (.agg #[.int .i64 v.hx, .int .i64 v.hy, .int .i64 v.cp, .int .i64 v.st, .int .i64 v.en]) w := fun _ => by kernel_rfl
      have ix1 : ∀ w, (Instr.index 44 (.agg #[.int .i64 v.hx, .int .i64 v.hy, .int .i64 v.cp, .int .i64 v.st, .int .i64 v.en, .int .i64 0, .int .i64 0, .int .i64 C, .int .i64 0, .int .i64 0]) (.int .i64 1)).run Tryd.prog w = .ok (.agg #[.int .i64 0, .int .i64 0, .int .i64 C, .int .i64 0, .int .i64 0]) w := fun _ => by kernel_rfl
      clear v0 v1 v2 v3 v4 u0 u1 u2 u3 u4
      obtain ⟨wo, rfl⟩ : ∃ wo, wo = wr := ⟨_, rfl⟩
      go_loopw [92] (fun i wx => ∃ m : Nat, m ≤ 2 ∧ i = .int .i64 m ∧ Below wo.heap.size wo wx) (fun i _ => 2 - (intOf i).toNat)
      case atStart => exact ⟨0, by omega, rfl, hY5⟩
      case round =>
        obtain ⟨m, hm, rfl, hYr⟩ := hrel
        clear hY5
        rcases (by omega : m = 0 ∨ m = 1 ∨ m = 2) with rfl | rfl | rfl
        · skip
          have hX6 : At (wr.alloc (.cells #[.int .i64 v.hx, .int .i64 v.hy, .int .i64 v.cp, .int .i64 v.st, .int .i64 v.en] 32)) wr.heap.size 32 #[.int .i64 v.hx, .int .i64 v.hy, .int .i64 v.cp, .int .i64 v.st, .int .i64 v.en] := At.new _ _ _
          have hx6 : Below wr.heap.size wr (wr.alloc (.cells #[.int .i64 v.hx, .int .i64 v.hy, .int .i64 v.cp, .int .i64 v.st, .int .i64 v.en] 32)) := (Below.refl _ _).alloc (Nat.le_refl _) _
          obtain ⟨r, hr⟩ : ∃ r, wr.heap.size = r := ⟨_, rfl⟩
          have hr' := Lib.hid hr
          go_upto_region 16 with fail
          obtain ⟨w6, hw6⟩ : ∃ w6, wr.alloc (.cells #[.int .i64 v.hx, .int .i64 v.hy, .int .i64 v.cp, .int .i64 v.st, .int .i64 v.en] 32) = w6 := ⟨_, rfl⟩
          rw [hr, hw6] at hX6
          rw [hw6] at hx6 ⊢
          clear hw6 hr
          have hY6 := hYr.trans (hx6.mono hYr.size)
          clear hYr hx6
          have x0' := hX6.cell 0
          have x1' := hX6.cell 1
          have x2' := hX6.cell 2
          have x3' := hX6.cell 3
          have x4' := hX6.cell 4
          simp at x0' x1' x2' x3' x4'
          have hxi := hX6.inside
          go_wp2_with fail
          refine (cE.out v w6 hY6).mono ?_
          rintro e w7 ⟨rfl, hy7⟩
          have hX7 := hX6.keep hy7 hxi
          have hY7 := hY6.trans (hy7.mono hY6.size)
          clear hX6 hy7 hY6 x0' x1' x2' x3' x4' hxi
          have x0' := hX7.cell 0
          have x1' := hX7.cell 1
          have x2' := hX7.cell 2
          have x3' := hX7.cell 3
          have x4' := hX7.cell 4
          simp at x0' x1' x2' x3' x4'
          have hxi := hX7.inside
          go_wp2_with fail
          refine (cF.out v w7 hY7).mono ?_
          rintro e w8 ⟨rfl, hy8⟩
          have hY8 := hY7.trans (hy8.mono hY7.size)
          clear hX7 hY7 hy8 x0' x1' x2' x3' x4' hxi
          generalize fitAt v lk T = F1 at *
          generalize fitE v lk T = F2 at *
          go_wp2
          go_roundw
          case rel => exact ⟨1, by omega, by go_num, hY8⟩
          case measure => simp [intOf]
        · skip
          have hX6 : At (wr.alloc (.cells #[.int .i64 0, .int .i64 0, .int .i64 C, .int .i64 0, .int .i64 0] 32)) wr.heap.size 32 #[.int .i64 0, .int .i64 0, .int .i64 C, .int .i64 0, .int .i64 0] := At.new _ _ _
          have hx6 : Below wr.heap.size wr (wr.alloc (.cells #[.int .i64 0, .int .i64 0, .int .i64 C, .int .i64 0, .int .i64 0] 32)) := (Below.refl _ _).alloc (Nat.le_refl _) _
          obtain ⟨r, hr⟩ : ∃ r, wr.heap.size = r := ⟨_, rfl⟩
          have hr' := Lib.hid hr
          go_upto_region 16 with fail
          obtain ⟨w6, hw6⟩ : ∃ w6, wr.alloc (.cells #[.int .i64 0, .int .i64 0, .int .i64 C, .int .i64 0, .int .i64 0] 32) = w6 := ⟨_, rfl⟩
          rw [hr, hw6] at hX6
          rw [hw6] at hx6 ⊢
          clear hw6 hr
          have hY6 := hYr.trans (hx6.mono hYr.size)
          clear hYr hx6
          have x0' := hX6.cell 0
          have x1' := hX6.cell 1
          have x2' := hX6.cell 2
          have x3' := hX6.cell 3
          have x4' := hX6.cell 4
          simp at x0' x1' x2' x3' x4'
          have hxi := hX6.inside
          go_wp2_with fail
          refine (cE.out ⟨0, 0, C, 0, 0⟩ w6 hY6).mono ?_
          rintro e w7 ⟨rfl, hy7⟩
          have hX7 := hX6.keep hy7 hxi
          have hY7 := hY6.trans (hy7.mono hY6.size)
          clear hX6 hy7 hY6 x0' x1' x2' x3' x4' hxi
          have x0' := hX7.cell 0
          have x1' := hX7.cell 1
          have x2' := hX7.cell 2
          have x3' := hX7.cell 3
          have x4' := hX7.cell 4
          simp at x0' x1' x2' x3' x4'
          have hxi := hX7.inside
          go_wp2_with fail
          refine (cF.out ⟨0, 0, C, 0, 0⟩ w7 hY7).mono ?_
          rintro e w8 ⟨rfl, hy8⟩
          have hY8 := hY7.trans (hy8.mono hY7.size)
          clear hX7 hY7 hy8 x0' x1' x2' x3' x4' hxi
          generalize fitAt ⟨0, 0, C, 0, 0⟩ lk T = F1 at *
          generalize fitE ⟨0, 0, C, 0, 0⟩ lk T = F2 at *
          go_wp2
          go_roundw
          case rel => exact ⟨2, by omega, by go_num, hY8⟩
          case measure => simp [intOf]
        · clear ix0 ix1
          simp only [show ((2 : Nat) : Int) = 2 from rfl]
          go_upto_region 22 with fail
          generalize wrap64 ((IntKind.u64.wrap k).tmod 20) = k9 at *
          generalize (IntKind.u64.wrap k).tmod 20 = k8 at *
          generalize IntKind.u64.wrap k = k7 at *
          have ix0 : ∀ w, (Instr.index 47 (.agg #[.int .i64 k, .int .i64 k9]) (.int .i64 0)).run Tryd.prog w = .ok (.int .i64 k) w := fun _ => by kernel_rfl
          have ix1 : ∀ w, (Instr.index 47 (.agg #[.int .i64 k, .int .i64 k9]) (.int .i64 1)).run Tryd.prog w = .ok (.int .i64 k9) w := fun _ => by kernel_rfl
          obtain ⟨wp, rfl⟩ : ∃ wp, wp = wr := ⟨_, rfl⟩
          go_loopw [124] (fun i wx => ∃ m : Nat, m ≤ 2 ∧ i = .int .i64 m ∧ Below wo.heap.size wo wx) (fun i _ => 2 - (intOf i).toNat)
          case atStart => exact ⟨0, by omega, rfl, hYr⟩
          case round =>
            obtain ⟨m, hm, rfl, hYz⟩ := hrel
            clear hYr
            rcases (by omega : m = 0 ∨ m = 1 ∨ m = 2) with rfl | rfl | rfl
            · skip
              go_wp2_with fail
              refine (cG.out k wr hYz).mono ?_
              rintro e w7 ⟨⟨b1, rfl, hb1, -⟩, hy7⟩
              have hb1' := Lib.hid hb1
              obtain ⟨f1, f2, f3, rfl, _, _, _⟩ := hb1.opened
              have hY7 := hYz.trans (hy7.mono hYz.size)
              clear hb1 hy7 hYz
              go_wp2_with fail
              refine (cH.out k w7 hY7).mono ?_
              rintro e w8 ⟨⟨b2, rfl, hb2⟩, hy8⟩
              have hb2' := Lib.hid hb2
              obtain ⟨g1, g2, g3, rfl, _, _, _⟩ := hb2.opened
              have hY8 := hY7.trans (hy8.mono hY7.size)
              have hb1y := hb1'.out.on hy8
              clear hb2 hy8 hY7 hb1'
              go_wp2_with fail
              refine (ints_yes _ _ (Load.opAt lk k) (hol.out k) w8 hb1y hb2'.out).mono ?_
              rintro e w9 ⟨rfl, hy9⟩
              have hY9 := hY8.trans (hy9.mono hY8.size)
              clear hy9 hY8 hb1y hb2'
              go_wp2
              go_roundw
              case rel => exact ⟨1, by omega, by go_num, hY9⟩
              case measure => simp [intOf]
            · skip
              go_wp2_with fail
              refine (cG.out k9 wr hYz).mono ?_
              rintro e w7 ⟨⟨b1, rfl, hb1, -⟩, hy7⟩
              have hb1' := Lib.hid hb1
              obtain ⟨f1, f2, f3, rfl, _, _, _⟩ := hb1.opened
              have hY7 := hYz.trans (hy7.mono hYz.size)
              clear hb1 hy7 hYz
              go_wp2_with fail
              refine (cH.out k9 w7 hY7).mono ?_
              rintro e w8 ⟨⟨b2, rfl, hb2⟩, hy8⟩
              have hb2' := Lib.hid hb2
              obtain ⟨g1, g2, g3, rfl, _, _, _⟩ := hb2.opened
              have hY8 := hY7.trans (hy8.mono hY7.size)
              have hb1y := hb1'.out.on hy8
              clear hb2 hy8 hY7 hb1'
              go_wp2_with fail
              refine (ints_yes _ _ (Load.opAt lk k9) (hol.out k9) w8 hb1y hb2'.out).mono ?_
              rintro e w9 ⟨rfl, hy9⟩
              have hY9 := hY8.trans (hy9.mono hY8.size)
              clear hy9 hY8 hb1y hb2'
              go_wp2
              go_roundw
              case rel => exact ⟨2, by omega, by go_num, hY9⟩
              case measure => simp [intOf]
            · go_wp2
              go_roundw
              case rel => exact ⟨j + 1, by omega, by go_num, hbw.trans (hYz.mono hws)⟩
              case measure => simp [intOf]; omega
    · obtain rfl : j = 3 := by omega
      have hso := hsg4.on hbw
      go_wp2_with fail
      refine (works_any wr hso).mono ?_
      rintro e w9 ⟨rfl, hy9⟩
      go_wp2
      go_ret
      exact ⟨rfl, hBw.trans (hy9.mono hBw.size)⟩

set_option maxRecDepth 100000 in
theorem lifted (os : Os) (started : os.Started) (H : Type) (enc : TypeId × Value → H) :
    ReturnsInHanded {} Tryd.checked os 3 .any (fun w args => (Rows.loadTellsSpec.pre enc Tryd.prog Tryd.f3 [] false w args ∧ laidMetH Tryd.prog Rows.loadTellsRow.laid w) ∧ sizedMet enc Tryd.prog Tryd.f3 (OpenSpec.ofChange Rows.loadTellsSpec) false w args)
      (Rows.loadTellsSpec.post enc Tryd.prog Tryd.f3 false true false false) := by
  refine returnsInHanded_of_change_and (C := Tryd.checked) (X := fun w _ => laidMetH Tryd.prog Rows.loadTellsRow.laid w) (fun _ _ _ hh h => h.of_heap hh) own started (by kernel_rfl) Tryd.func3
    (ChangeSpec.witness_shaped (enc := enc) (C := Tryd.checked) (os := os) (X := fun w _ => laidMetH Tryd.prog Rows.loadTellsRow.laid w) false (World.doorLaid Tryd.prog 400 os) #[.agg #[.slice none 0 0, .slice none 0 0, .int .u16 0, .int .u8 0, .int .u8 0, .int .u8 0, .slice none 0 0], .agg #[.int .i64 0, .int .i64 0, .int .i64 0, .int .i64 0, .int .i64 0], .int .i64 0] 8 rfl (World.shaped_of_RefB (by kernel_rfl) (by kernel_rfl)) (by kernel_rfl) (by kernel_rfl) (by kernel_rfl) (door_met os _)) ?_
  intro W base args ds gs before hval0 hW _ _ hL _
  have hval : ∀ (j : Nat) t v, Tryd.f3.params[j]? = some t → args[j]? = some v → Value.okWide Tryd.prog W .any base t v := hval0
  have hW' := hW
  obtain ⟨p, q, hA0, hV, rfl, hfz, hnd⟩ := hW
  have hA : DataW.TrodAll enc Tryd.prog W 0 (fun _ => true) true Tryd.f3.params.toList args.toList ds p := hA0
  rw [Tryd.params3] at hA hval
  obtain ⟨v0, vs0, d0, ds0, p0, q0, hargs, rfl, rfl, h0, r0⟩ := trodAll_cons hA
  obtain ⟨v1, vs1, d1, ds1, p1, q1, rfl, rfl, rfl, h1, r1⟩ := trodAll_cons r0
  obtain ⟨v2, vs2, d2, ds2, p2, q2, rfl, rfl, rfl, h2, r2⟩ := trodAll_cons r1
  obtain ⟨rfl, rfl, rfl⟩ := trodAll_nil r2
  obtain rfl : args = #[v0, v1, v2] := by cases args; simp_all
  obtain ⟨rfl, rfl⟩ := trodVars_none hV
  obtain ⟨vL, vB, vS, cp, t0, t1, t2, ns, bs, l, rfl, hcp, ht0, ht1, ht2, hn, hb, hnum, hL1, hB1, hS1⟩ := openDrawn (hval 0 _ _ rfl rfl) h0
  obtain ⟨vh, rfl⟩ := openVeh (hval 1 _ _ rfl rfl) h1
  obtain ⟨k, rfl, rfl, rfl, w2⟩ := open_int Tryd.underlying3 (hval 2 3 v2 rfl rfl) h2
  exact (walk vL vB vS cp t0 t1 t2 hcp ht0 ht1 ht2 ns bs l hn hb hnum vh k W (sg_of_laid hL) hL1 hB1 hS1).mono fun e W' ⟨he, hb⟩ => ⟨_, he, Close.law_post laidOut (by kernel_rfl) rfl (by kernel_rfl) Tryd.underlying4 hW' rfl hb⟩

theorem over : Rows.LoadTellsSaid :=
  OpenClaim.holds_of_wide 3 Tryd.f3 rfl rfl rfl rfl rfl rfl rfl ⟨rfl, rfl, rfl, rfl, rfl⟩ rfl rfl rfl rfl rfl (by kernel_rfl) Tryd.func3 (by kernel_rfl)
    (of_decide_eq_true (by kernel_rfl)) (by unfold Func.isWrapper; first | (rw [if_pos (by decide +kernel)]; kernel_rfl) | (rw [if_neg (by decide +kernel)]; exact ⟨rfl, rfl⟩))
    (fun os started H enc _ => lifted os started H enc)

theorem proved : Rows.LoadTellsCardSaid :=
  Claim7.holds_tied_plain_at .later [] [.data] true _ false
    over (fun _ h => by cases h) (by kernel_rfl) (fun _ h => by cases h) loadTells_row_tie rfl ⟨rfl, rfl⟩ (by kernel_rfl) rfl
    (fun f fn hf hfn => by
      obtain rfl : f = 3 := Option.some.inj ((show Tryd.prog.funcNamed "consign/consignlaw08.LoadTells" = some 3 by kernel_rfl).symm.trans hf) |>.symm
      obtain rfl : fn = Tryd.f3 := (Option.some.inj (Tryd.func3.symm.trans hfn)).symm
      exact ⟨by kernel_rfl, fun j t ht => by
        rw [Tryd.params3] at ht
        have hm : t ∈ [28, 32, 3] := by simpa using Array.mem_of_getElem? ht
        have hall : ([28, 32, 3].all fun u => !Tryd.prog.wantsStandIn u) = true := by kernel_rfl
        exact (show Tryd.prog.wantsStandIn t = false by simpa using List.all_eq_true.1 hall t hm)⟩)
    (by kernel_rfl)
#print axioms proved

end Go.Proofs.YtphfjaelglafnaaDoor.loadTells

import Derived.Test.YtlbghdiebjldjaaGreatDoorPkWindowFuncs2
import Derived.Test.YtlbghdiebjldjaaGreatDoorPkSlackMath
import Derived.Test.YtlbghdiebjldjaaGreatDoorPkInsRightMath

namespace Go.Proofs.YtlbghdiebjldjaaGreatDoor.Slack
open Go.RowKit Go.Sort Go.Proofs.YtlbghdiebjldjaaGreatDoor.Mem Go.Proofs.YtlbghdiebjldjaaGreatDoor.Route Go.Proofs.YtlbghdiebjldjaaGreatDoor.When Go.Proofs.YtlbghdiebjldjaaGreatDoor.Tail
set_option linter.unusedVariables false
theorem refDistCall (ax ay bx by_ D : Int) (hD : Place.distV (ax, ay) (bx, by_) = D) (w : World) : Calls Tryz.prog 99 #[.agg #[.int .i64 ax, .int .i64 ay], .agg #[.int .i64 bx, .int .i64 by_]] w fun e w' => e = .returned (.int .i64 D) ∧ Below w.heap.size w w' := by
 rw [← hD]; exact Place.refDist_any _ _ _ _ _
theorem owns_lt {W : World} {base size k : Nat} {e : TypeId} {v : Value} {xs : List Value} (h : W.ownsRow base e size v k xs) : ∀ r, v.ownBlock = some r → r < W.heap.size := fun r e => (World.ownsRow.lt h r e).2
theorem At.offRow {A A' : World} {g : Nat} {t : TypeId} {cs : Array Value} {row : Option Nat} (h : At A g t cs) (hg : A.grownBy A' row) (hr : ∀ r, row = some r → g ≠ r) : At A' g t cs := (hg.block g h.inside (fun e => hr g e.symm rfl)).trans h
theorem endK_bd0 {v : Vh} {l : List (Int × Int)} {t : List Rq} (hf : Fine0 v l t) {i by_ : Int} (hb : 0 ≤ by_) {k : Nat} (hk : k ≤ l.length) (h : okK v l t i by_ k = true) : 0 ≤ (endK v l t i by_ k).now ∧ (endK v l t i by_ k).now ≤ 1049576 := by
 cases k with
 | zero =>
  have := veh_bd hf.veh
  have e : (endK v l t i by_ 0).now = v.st := rfl
  rw [e]
  omega
 | succ k => exact endK_bd hf hb (by omega) h
def FromI (w : World) (n1 Nl : Nat) (v : Vh) (l : List (Int × Int)) (t : List Rq) (i by_ : Int) (nw u kk : Value) (wr : World) : Prop :=
 ∃ (k : Nat) (x : Option Addr) (cap : Nat), kk = .int .i64 k ∧ k ≤ Nl ∧ u = .slice x k cap ∧ nw = .int .i64 (endK v l t i by_ k).now ∧ wr.ownsRow (n1 + 1) 136 3 (.slice x k cap) k (flatT (rowB (sp0 v) ((pairs (visL t l) i by_).take k))) ∧
  At wr n1 62 #[.int .i64 (endK v l t i by_ k).px, .int .i64 (endK v l t i by_ k).py] ∧ At wr w.heap.size 64 #[.int .i64 v.hx, .int .i64 v.hy, .int .i64 v.cp, .int .i64 v.st, .int .i64 v.en] ∧ okK v l t i by_ k = true ∧ Below w.heap.size w wr
theorem from_nil {v : Vh} {l : List (Int × Int)} {t : List Rq} {i by_ : Int} (h : fromE v l t i by_ ≠ 0) : fromT v l t i by_ = [] ∧ fromH v l t i by_ = 0 := by
 unfold fromT fromH
 rw [if_neg h, if_neg h]
 exact ⟨rfl, rfl⟩
set_option maxRecDepth 100000 in
set_option maxHeartbeats 4000000 in
theorem From_all (v : Vh) (vl vt : Value) (l : List (Int × Int)) (t : List Rq) (hl : l.length ≤ 1000000) (hnum : Nums l) (i by_ : Int) (hb : 0 ≤ by_ ∧ by_ ≤ 1048576) (w : World) (hL : Row w.heap.size w vl l) (hT : Rqs w.heap.size w vt t) :
 Calls Tryz.prog 120 #[.agg #[.int .i64 v.hx, .int .i64 v.hy, .int .i64 v.cp, .int .i64 v.st, .int .i64 v.en], vl, vt, .int .i64 i, .int .i64 by_] w fun e w' =>
  (∃ u, e = .returned (.tuple #[u, .int .i64 (fromH v l t i by_), .int .i64 (fromE v l t i by_)]) ∧ Tms w'.heap.size w' u (fromT v l t i by_) ∧ (fromE v l t i by_ ≠ 0 → u = .slice none 0 0)) ∧ Below w.heap.size w w' := by
 obtain ⟨i0, hi, hz0, hz1, hz2⟩ := info_parts info_time
 have hb0 : Below w.heap.size w (w.alloc (.cells #[.int .i64 v.hx, .int .i64 v.hy, .int .i64 v.cp, .int .i64 v.st, .int .i64 v.en] 64)) := (Below.refl _ _).alloc (Nat.le_refl _) _
 have hc := refWrong_any v vl vt l t hl hnum _ (hL.on hb0) (hT.on hb0)
 have hP := At.new w 64 #[.int .i64 v.hx, .int .i64 v.hy, .int .i64 v.cp, .int .i64 v.st, .int .i64 v.en]
 obtain ⟨xl, Nl, capl, rfl, hNl, hl0, hlc1, hlc2⟩ := hL.opened
 obtain ⟨xt, Nt, capt, rfl, hNt0, htc1, htc2, ht0⟩ := hT.opened
 have hNt := Lib.hid hNt0
 unfold maxLen at hlc2 htc2
 have hL' := Lib.hid hL
 have hT' := Lib.hid hT
 have hNl1 : Nl ≤ 1000000 := by rw [hNl.out] at hl; exact hl
 obtain ⟨hby0, hby1⟩ := hb
 clear hL hT hNt0 ht0 hl hnum
 obtain ⟨E, hE⟩ : ∃ E, wrongV v l t = E := ⟨_, rfl⟩
 rw [hE] at hc
 have hE' := Lib.hid hE
 clear hE
 go_enter Tryz.func120, Tryz.ntmps120
 go_wp2_with fail
 refine hc.mono ?_
 clear hc
 rintro e w1 ⟨rfl, hb1⟩
 have hB := hb0.trans (hb1.mono hb0.size)
 have hP1 := hP.keep hb1 hP.inside
 clear hb0 hb1 hP
 cases he0 : (E == 0)
 · have he1 : (E != 0) = true := by simpa using he0
   have hw : Hid (fromE v l t i by_ = E ∧ fromE v l t i by_ ≠ 0) := Lib.hid (by
    have h1 : wrongV v l t ≠ 0 := by rw [hE'.out]; simpa using he0
    rw [fromE_wrong h1, hE'.out]
    exact ⟨rfl, by simpa using he0⟩)
   go_wp2
   refine bodyPost_ret (v := .tuple #[.slice none 0 0, .int .i64 0, .int .i64 E]) (by simp [results, Tryz.results120, go_sem]) rfl ?_
   exact ⟨⟨_, by rw [(from_nil hw.out.2).2, hw.out.1], by rw [(from_nil hw.out.2).1]; exact RowB.nil _ _ _, fun _ => rfl⟩, hB⟩
 have he1 : (E != 0) = false := by simpa using he0
 have hz : wrongV v l t = 0 := by rw [hE'.out]; simpa using he0
 have hfine := Lib.hid (fine0_of hz)
 have hlate : Hid (fromB v l t i by_ = false → fromE v l t i by_ = 9) := Lib.hid (fun h => by rw [fromE_ok hz, h]; rfl)
 have hgood : Hid (fromB v l t i by_ = true → fromE v l t i by_ = 0) := Lib.hid (fun h => by rw [fromE_ok hz, h]; rfl)
 have p0 := hP1.cell 0
 have p1 := hP1.cell 1
 have p3 := hP1.cell 3
 have hPs := hP1.inside
 simp at p0 p1 p3
 have hP' := Lib.hid hP1
 have hB' := Lib.hid hB
 clear hz hP1 hB
 go_wp2_with fail
 go_region
 have hA1 : At ((w1.alloc (.cells #[.int .i64 v.hx, .int .i64 v.hy] 62)).drew) w1.heap.size 62 #[.int .i64 v.hx, .int .i64 v.hy] := (At.new _ _ _).drew
 have hBd : Below w.heap.size w ((w1.alloc (.cells #[.int .i64 v.hx, .int .i64 v.hy] 62)).drew) := Below.drew (hB'.out.alloc hB'.out.size _)
 have hPd : At ((w1.alloc (.cells #[.int .i64 v.hx, .int .i64 v.hy] 62)).drew) w.heap.size 64 #[.int .i64 v.hx, .int .i64 v.hy, .int .i64 v.cp, .int .i64 v.st, .int .i64 v.en] := (hP'.out.alloc _).drew
 have hsd : w1.heap.size < ((w1.alloc (.cells #[.int .i64 v.hx, .int .i64 v.hy] 62)).drew).heap.size := by simp
 generalize (w1.alloc (.cells #[.int .i64 v.hx, .int .i64 v.hy] 62)).drew = w2 at *
 have hwn : w.heap.size < w1.heap.size := hPs
 obtain ⟨n1, hn1⟩ : ∃ n, w1.heap.size = n := ⟨_, rfl⟩
 rw [hn1] at hA1 hsd hwn ⊢
 clear p0 p1 p3 hPs hP' hB' hn1
 go_wp2
 go_loopw [15, 16, 17] (fun nw u kk wr => FromI w n1 Nl v l t i by_ nw u kk wr) (fun _ _ kk _ => Nl - (intOf kk).toNat)
 case atStart => exact ⟨0, none, 0, rfl, Nat.zero_le _, rfl, rfl, World.ownsRow_nil _ _ _ _, hA1, hPd, rfl, hBd⟩
 case round =>
  obtain ⟨k, x, cap, rfl, hk, rfl, rfl, hown, hA, hP, hok, hbw⟩ := hrel
  clear hA1 hPd hBd hsd
  have hAs := hA.inside
  have hPs := hP.inside
  obtain ⟨hn0, hn2⟩ := endK_bd0 hfine.out hby0 (by rw [hNl.out]; exact hk) hok
  have hok' := Lib.hid hok
  clear hok
  by_cases hlt : k < Nl
  · have hkl : k < l.length := by rw [hNl.out]; exact hlt
    obtain ⟨⟨s1, s2⟩, hs⟩ : ∃ s, l[k]? = some s := ⟨_, List.getElem?_eq_getElem hkl⟩
    obtain ⟨x0, hx0⟩ := hfine.out.vis _ (List.mem_of_getElem? hs)
    obtain ⟨q, hq, hr1, hr2, hsv, -⟩ := visO_some hx0
    have hxo := okv_of hfine.out.req hx0
    have hvN : Hid (visN v t l k = x0) := Lib.hid (by rw [visN_at hs, (vis_some hx0).1])
    obtain ⟨r, rfl⟩ : ∃ r : Nat, s1 = r := ⟨s1.toNat, by simp only at hr1; omega⟩
    simp only [Int.toNat_natCast] at hq hr1 hr2
    have hrN : r < Nt := by rw [← hNt.out]; exact (List.getElem?_eq_some_iff.1 hq).1
    have hrI : ((r : Int) < (Nt : Int)) := by omega
    have hkI : ((k : Int) < (Nl : Int)) := by omega
    obtain ⟨g, o, rfl, hg, c0, c1⟩ := Row.stop (hL'.out.keep hbw (Nat.le_refl _)) hs
    obtain ⟨gt, ot, rfl, hgt, -, -, -, -, -, -, -, -, -, d9⟩ := Rqs.at (hT'.out.keep hbw (Nat.le_refl _)) hq
    simp only at c0 c1
    obtain ⟨S, hS⟩ : ∃ S, endK v l t i by_ k = S := ⟨_, rfl⟩
    rw [hS] at hA hn0 hn2 ⊢
    have hcS := spot_any r s2 _ t x0 hx0 wr ((hT'.out.keep hbw (Nat.le_refl _)).more hbw.size)
    obtain ⟨px, py, we, wl, sv⟩ := x0
    simp only at hcS hsv
    subst hsv
    have hS' := Lib.hid hS
    have hown' := Lib.hid hown
    obtain ⟨ho1, ho2, ho3, hsv1, hsv2⟩ := hxo
    simp only at ho1 ho2 ho3 hsv1 hsv2
    have hgr : g < wr.heap.size := by have := hbw.size; omega
    have hgtr : gt < wr.heap.size := by have := hbw.size; omega
    have hAw := Lib.hid hA
    have hPw := Lib.hid hP
    have hbw' := Lib.hid hbw
    clear hs hq hr1 hr2 hS hown hA hP hbw hx0
    go_wp2_with fail
    refine hcS.mono ?_
    clear hcS
    rintro e w3 ⟨rfl, hb3⟩
    obtain ⟨m, hm⟩ : ∃ m, w3.heap.size = m := ⟨_, rfl⟩
    have hq4 : At ((w3.alloc (.cells #[.int .i64 px, .int .i64 py] 62)).alloc (.cells #[.int .i64 we, .int .i64 wl] 70)) m 62 #[.int .i64 px, .int .i64 py] := by
     rw [← hm]
     exact (At.new w3 62 #[.int .i64 px, .int .i64 py]).alloc _
    have hd4 : At ((w3.alloc (.cells #[.int .i64 px, .int .i64 py] 62)).alloc (.cells #[.int .i64 we, .int .i64 wl] 70)) (m + 1) 70 #[.int .i64 we, .int .i64 wl] := by
     have := At.new (w3.alloc (.cells #[.int .i64 px, .int .i64 py] 62)) 70 #[.int .i64 we, .int .i64 wl]
     simpa [hm] using this
    have hbr4 : Below wr.heap.size wr ((w3.alloc (.cells #[.int .i64 px, .int .i64 py] 62)).alloc (.cells #[.int .i64 we, .int .i64 wl] 70)) := (hb3.alloc hb3.size _).alloc (Nat.le_trans hb3.size (by simp)) _
    have hs4 : ((w3.alloc (.cells #[.int .i64 px, .int .i64 py] 62)).alloc (.cells #[.int .i64 we, .int .i64 wl] 70)).heap.size = m + 2 := by simp [hm]
    have hmw : wr.heap.size ≤ m := by rw [← hm]; exact hb3.size
    obtain ⟨D, hD⟩ : ∃ D, Place.distV (S.px, S.py) (px, py) = D := ⟨_, rfl⟩
    have hDb := Order.distV_bd (S.px, S.py) (px, py)
    rw [hD] at hDb
    obtain ⟨hDb1, hDb2⟩ := hDb
    go_upto_region 10 with fail
    generalize ((w3.alloc (.cells #[.int .i64 px, .int .i64 py] 62)).alloc (.cells #[.int .i64 we, .int .i64 wl] 70)) = w4 at *
    clear hm hb3
    have hA4 := hAw.out.keep hbr4 hAs
    have a0 := hA4.cell 0
    have a1 := hA4.cell 1
    have q0 := hq4.cell 0
    have q1 := hq4.cell 1
    simp at a0 a1 q0 q1
    have hqs := hq4.inside
    have hAs4 := hA4.inside
    have hcD := refDistCall S.px S.py px py D hD w4
    have hD' := Lib.hid hD
    clear hD hA4
    go_wp2_with fail
    refine hcD.mono ?_
    clear hcD a0 a1 q0 q1
    rintro e w5 ⟨rfl, hb5⟩
    have hx6 : At (w5.alloc (.cells #[.int .i64 (S.now + D), .int .i64 0, .int .i64 0] 136)) w5.heap.size 136 #[.int .i64 (S.now + D), .int .i64 0, .int .i64 0] := At.new _ _ _
    have hbr6 : Below wr.heap.size wr (w5.alloc (.cells #[.int .i64 (S.now + D), .int .i64 0, .int .i64 0] 136)) := (hbr4.trans (hb5.mono hbr4.size)).alloc (Nat.le_trans hbr4.size hb5.size) _
    have hq6 := (hq4.keep hb5 hq4.inside).alloc (.cells #[.int .i64 (S.now + D), .int .i64 0, .int .i64 0] 136)
    have hd6 := (hd4.keep hb5 hd4.inside).alloc (.cells #[.int .i64 (S.now + D), .int .i64 0, .int .i64 0] 136)
    have hs5 : m + 2 ≤ w5.heap.size := by rw [← hs4]; exact hb5.size
    obtain ⟨p, hp⟩ : ∃ p, w5.heap.size = p := ⟨_, rfl⟩
    go_upto_region 11 with fail
    rw [hp] at hx6 hs5
    generalize (w5.alloc (.cells #[.int .i64 (S.now + D), .int .i64 0, .int .i64 0] 136)) = w6 at *
    clear hp hb5 hbr4 hq4 hd4 hs4
    have f0 := hx6.cell 0
    have f1 := hx6.cell 1
    have ff := hx6.free
    have e0 := hd6.cell 0
    simp at f0 f1 e0
    go_upto_region 12 with fail
    clear f0 f1 ff e0
    -- Begin, with what is added
    have hbp : Hid (∃ b, bmp i by_ k = b ∧ (((k : Int) == i) = true → b = by_) ∧ (((k : Int) == i) = false → b = 0) ∧ 0 ≤ b ∧ b ≤ 1048576) := Lib.hid (by
     unfold bmp
     refine ⟨_, rfl, fun h => if_pos (by simpa using h), fun h => if_neg (by simpa using h), ?_, ?_⟩ <;> split <;> omega)
    obtain ⟨b, hb1, hb2, hb3, hb4, hb5⟩ := hbp.out
    obtain ⟨M, hM⟩ : ∃ M, max (S.now + D) we = M := ⟨_, rfl⟩
    have hM1 : S.now + D ≤ M ∧ we ≤ M ∧ M ≤ 4000000 := by omega
    obtain ⟨hM1, hM2, hM3⟩ := hM1
    rw [hM]
    have hbe : Hid (beB S ⟨px, py, we, wl, q.sv⟩ b = M + b ∧ tmB S ⟨px, py, we, wl, q.sv⟩ b = ⟨S.now + D, M + b, M + b + q.sv⟩ ∧ goB S ⟨px, py, we, wl, q.sv⟩ b = ⟨M + b + q.sv, px, py⟩) := Lib.hid (by
     have h1 : arV S ⟨px, py, we, wl, q.sv⟩ = S.now + D := by unfold arV; rw [← hD'.out]
     unfold goB tmB beB
     rw [h1]
     simp only
     rw [hM]
     exact ⟨rfl, rfl, rfl⟩)
    have hok2 : Hid (okK v l t i by_ (k + 1) = decide (M + b ≤ wl)) := Lib.hid (by
     rw [okK_next hkl, hok'.out, hS'.out, hvN.out, hb1, hbe.out.1]
     rfl)
    have hend2 : Hid (endK v l t i by_ (k + 1) = ⟨M + b + q.sv, px, py⟩) := Lib.hid (by rw [endK_next hkl, hS'.out, hvN.out, hb1, hbe.out.2.2])
    have hrow2 : Hid (flatT (rowB (sp0 v) ((pairs (visL t l) i by_).take (k + 1))) = flatT (rowB (sp0 v) ((pairs (visL t l) i by_).take k)) ++ [.int .i64 (S.now + D), .int .i64 (M + b), .int .i64 (M + b + q.sv)]) := Lib.hid (by
     rw [take_succ_at (pairs_at (v := v) hkl), rowB_snoc, flatT_snoc, hvN.out, hb1]
     have : endB (sp0 v) ((pairs (visL t l) i by_).take k) = S := hS'.out
     rw [this, hbe.out.2.1])
    clear hbp hb1
    have hx7 := hx6.put 1 (.int .i64 M)
    have hq7 := hq6.far (b := p) (by omega) 1 (.int .i64 M)
    have hd7 := hd6.far (b := p) (by omega) 1 (.int .i64 M)
    have hbr7 : Below wr.heap.size wr (w6.setCell ⟨p, 1, none⟩ (.int .i64 M)) := hbr6.setCell (by simp; omega) _
    simp at hx7
    generalize (w6.setCell ⟨p, 1, none⟩ (.int .i64 M)) = w7 at *
    clear hx6 hq6 hd6 hbr6 hM
    obtain ⟨X, hX⟩ : ∃ X, M + b = X := ⟨_, rfl⟩
    rw [hX] at hok2 hrow2 hend2
    have hX1 : 0 ≤ X ∧ X ≤ 6000000 := by omega
    obtain ⟨hX1, hX2⟩ := hX1
    clear hbe
    go_upto_region 12 with fail
    cases hki : ((k : Int) == i)
    case' false =>
     have hMX : X = M := by rw [← hX, hb3 hki]; omega
     subst hMX
     clear hX hb2 hb3 hb4 hb5
     have ki' : ((i : Int) == (k : Int)) = false := by rw [← hki]; exact Bool.beq_comm
     go_upto_region 14 with fail
     clear hki ki'
     have hx8 := hx7
     have hq8 := hq7
     have hd8 := hd7
     have hbr8 := hbr7
     clear hx7 hq7 hd7 hbr7
     generalize w7 = w8 at *
    case' true =>
     have hb : by_ = b := (hb2 hki).symm
     subst hb
     have hx8 := hx7.put 1 (.int .i64 X)
     have hq8 := hq7.far (b := p) (by omega) 1 (.int .i64 X)
     have hd8 := hd7.far (b := p) (by omega) 1 (.int .i64 X)
     have hbr8 : Below wr.heap.size wr (w7.setCell ⟨p, 1, none⟩ (.int .i64 X)) := hbr7.setCell (by simp; omega) _
     simp at hx8
     have f1 := hx7.cell 1
     have ff := hx7.free
     simp at f1
     clear hb2 hb3
     go_upto_region 14 with fail
     generalize (w7.setCell ⟨p, 1, none⟩ (.int .i64 X)) = w8 at *
     clear hX f1 ff hki hx7 hq7 hd7 hbr7 hb4 hb5
    all_goals
     have g1 := hx8.cell 1
     have h1 := hd8.cell 1
     have y0 := hq8.cell 0
     have y1 := hq8.cell 1
     simp at g1 h1 y0 y1
     have hBx := Lib.hid (hbw'.out.trans (hbr8.mono hbw'.out.size))
     cases hok3 : (decide (X ≤ wl))
     · have hgt1 : decide (wl < X) = true := by simp at hok3 ⊢; omega
       have hw : Hid (fromE v l t i by_ = 9) := Lib.hid (hlate.out (okK_bad (by rw [hok2.out]; exact hok3)))
       go_wp2
       refine bodyPost_ret (v := .tuple #[.slice none 0 0, .int .i64 0, .int .i64 9]) (by simp [results, Tryz.results120, go_sem]) rfl ?_
       exact ⟨⟨_, by rw [(from_nil (by rw [hw.out]; omega)).2, hw.out], by rw [(from_nil (by rw [hw.out]; omega)).1]; exact RowB.nil _ _ _, fun _ => rfl⟩, hBx.out⟩
     have hgt1 : decide (wl < X) = false := by simp at hok3 ⊢; omega
     have hok4 : Hid (okK v l t i by_ (k + 1) = true) := Lib.hid (by rw [hok2.out]; exact hok3)
     go_upto_region 16 with fail
     have c0' := (hbr8.cell (p := ⟨g, o + k * 2, none⟩) hgr).trans c0
     have dd := (hbr8.cell (p := ⟨gt, ot + r * 10 + 9, none⟩) hgtr).trans d9
     have kg1 := cell_regrown g1
     have kc0 := cell_regrown c0'
     have kdd := cell_regrown dd
     clear g1 h1 y0 y1 c0' dd c0 c1 d9
     refine wp_region_below_tail 12 (by kernel_rfl) (by kernel_rfl) (by kernel_rfl) ?_
     simp only [List.take_succ_cons, List.take_zero, List.drop_succ_cons, List.drop_zero]
     repeat (go_big_quiet_step (fail))
     refine wpQuiet_nil ?_
     intro _ hw'
     obtain ⟨⟨dq, osq⟩, hw''⟩ := hw'
     subst hw''
     have hb9 := below_regrown w8 dq osq
     have hx9 := hx8.keep hb9 hx8.inside
     have hq9 := hq8.keep hb9 hq8.inside
     have hbr9 := hbr8.trans (hb9.mono hbr8.size)
     generalize grow (redrawn w8 dq) osq = w9 at *
     clear hx8 hq8 hd8 hbr8 hb9 kg1 kc0 kdd hBx
     have gf := hx9.free
     have g2 := hx9.cell 2
     simp at g2
     have hxX := hx9.put 2 (.int .i64 (X + q.sv))
     simp at hxX
     have hqX := Lib.hid (hq9.far (b := p) (by omega) 2 (.int .i64 (X + q.sv)))
     have hbrX : Below wr.heap.size wr (w9.setCell ⟨p, 2, none⟩ (.int .i64 (X + q.sv))) := hbr9.setCell (by simp; omega) _
     have hpw := hx9.inside
     clear hx9 hq9 hbr9
     go_upto_region 17 with fail
     have hownX := Lib.hid (owns_below hown'.out hbrX)
     have hAX := Lib.hid (hAw.out.keep hbrX hAs)
     have hPX := Lib.hid (hPw.out.keep hbrX hPs)
     have hBX := Lib.hid (hbw'.out.trans (hbrX.mono hbw'.out.size))
     have hxX' := Lib.hid hxX
     have t0 := hxX.cell 0
     have t1 := hxX.cell 1
     have t2 := hxX.cell 2
     simp at t0 t1 t2
     generalize (w9.setCell ⟨p, 2, none⟩ (.int .i64 (X + q.sv))) = wx at *
     have hlo := Lib.hid (owns_lt hown'.out)
     have hro := Lib.hid (owns_row hown'.out)
     have hqs' := hqX.out.inside
     clear hown' hAw hPw hbw'
     go_upto_region 18 with (at_builtin; refine wpList_append_own _ rfl _ _ 99 rfl (n1 + 1) 136 i0 (.agg #[.int .i64 0, .int .i64 0, .int .i64 0]) 3 24 Tryz.underlying99 hi hz0 hz1 hz2 rfl (by decide) _ _ _ rfl (hownX.out.alloc _) ⟨wx.heap.size, 0, none⟩ 1 1 [.int .i64 (S.now + D), .int .i64 X, .int .i64 (X + q.sv)] rfl rfl (World.news_of_block (cs := #[.int .i64 (S.now + D), .int .i64 X, .int .i64 (X + q.sv)]) (t := 136) (fr := (0, 0)) (by simpa using heap_alloc_new wx _)) (by simp [Value.oneCell']) (by unfold maxLen; omega) (by omega) (by simp; omega) ?_; intro v7 w10 hown7 hgrow7 hnil7; obtain ⟨x7, c7, rfl, _, _⟩ := owns_slice hown7)
     have hAt := At.offRow (hAX.out.alloc _) hgrow7 (fun r e => by have := hro.out r e; omega)
     have hPt := Lib.hid (At.offRow (hPX.out.alloc _) hgrow7 (fun r e => by have := hro.out r e; omega))
     have hxt := At.offRow (hxX'.out.alloc _) hgrow7 (fun r e => by have := hlo.out r e; omega)
     have hqt := At.offRow (hqX.out.alloc _) hgrow7 (fun r e => by have := hlo.out r e; omega)
     have hBt := Lib.hid ((hBX.out.alloc hBX.out.size _).grown hgrow7 (Nat.le_trans hBX.out.size (by simp)) (fun r e => by have := hro.out r e; omega))
     have z0 := hqt.cell 0
     have z1 := hqt.cell 1
     have z2 := hxt.cell 2
     have y0 := hAt.cell 0
     have y1 := hAt.cell 1
     have yf := hAt.free
     simp at z0 z1 z2 y0 y1
     have hsz1 : n1 < w10.heap.size := hAt.inside
     have hAt' := Lib.hid hAt
     have hown7' := Lib.hid hown7
     clear hAt hxt hqt hgrow7 hown7 hnil7 t0 t1 t2 hxX
     go_region
     go_wp2
     go_roundw
     case rel =>
      refine ⟨k + 1, x7, c7, by go_num, hlt, rfl, ?_, ?_, ?_, ?_, hok4.out, ?_⟩
      · rw [hend2.out]
      · rw [hrow2.out]
        exact owns_far (owns_far hown7'.out (by omega) _ _) (by omega) _ _
      · rw [hend2.out]
        exact put2 hAt'.out
      · exact (hPt.out.far (by omega) _ _).far (by omega) _ _
      · exact Below.drew ((hBt.out.setCell (by simp; omega) _).setCell (by simp; omega) _)
     case measure => simp [intOf]; omega
  · obtain rfl : k = Nl := by omega
    have hkl : k = l.length := hNl.out.symm
    obtain ⟨S, hS⟩ : ∃ S, endK v l t i by_ k = S := ⟨_, rfl⟩
    rw [hS] at hA hn0 hn2 ⊢
    obtain ⟨D, hD⟩ : ∃ D, Place.distV (S.px, S.py) (v.hx, v.hy) = D := ⟨_, rfl⟩
    have hDb := Order.distV_bd (S.px, S.py) (v.hx, v.hy)
    rw [hD] at hDb
    obtain ⟨hDb1, hDb2⟩ := hDb
    have hcD := refDistCall S.px S.py v.hx v.hy D hD wr
    have hAr : Hid (arV (endB (sp0 v) (pairs (visL t l) i by_)) (homeV v) = S.now + D ∧ fromB v l t i by_ = decide (S.now + D ≤ v.en)) := Lib.hid (by
     have hS2 : endK v l t i by_ l.length = S := by rw [← hkl]; exact hS
     have hok2 : okK v l t i by_ l.length = true := by rw [← hkl]; exact hok'.out
     have h1 : endK v l t i by_ l.length = endB (sp0 v) (pairs (visL t l) i by_) := by
      unfold endK
      rw [List.take_of_length_le (by rw [pairs_length]; simp [visL])]
     have h2 : arV S (homeV v) = S.now + D := by rw [← hD]; rfl
     rw [okK_all, hok2, hS2, h2, ← h1, hS2, h2]
     exact ⟨rfl, by simp⟩)
    have hrow : Hid (Tms wr.heap.size wr (.slice x k cap) (rowB (sp0 v) (pairs (visL t l) i by_))) := Lib.hid (by
     have h1 : (pairs (visL t l) i by_).take k = pairs (visL t l) i by_ := List.take_of_length_le (by rw [pairs_length]; simp [visL, hkl])
     rw [h1] at hown
     refine Tms.of_owns hown ?_ (Nat.le_refl _)
     rw [rowB_length, pairs_length]
     simp [visL, hkl])
    have a0 := hA.cell 0
    have a1 := hA.cell 1
    have p0 := hP.cell 0
    have p1 := hP.cell 1
    have p4 := hP.cell 4
    simp at a0 a1 p0 p1 p4
    have hbw' := Lib.hid hbw
    clear hS hD hA hown hP hbw hkl
    go_wp2_with fail
    refine hcD.mono ?_
    clear hcD a0 a1 p0 p1
    rintro e w3 ⟨rfl, hb3⟩
    have p4' := (hb3.cell (p := ⟨w.heap.size, 4, none⟩) hPs).trans p4
    have hs3 : w.heap.size < w3.heap.size := Nat.lt_of_lt_of_le hPs hb3.size
    have hB3 := Lib.hid (hbw'.out.trans (hb3.mono hbw'.out.size))
    have hrow3 : Hid (Tms w3.heap.size w3 (.slice x k cap) (rowB (sp0 v) (pairs (visL t l) i by_))) := Lib.hid (hrow.out.on hb3)
    clear hb3 p4
    by_cases hle : S.now + D ≤ v.en
    · have hw : Hid (fromE v l t i by_ = 0) := Lib.hid (hgood.out (by rw [hAr.out.2]; simpa using hle))
      go_wp2
      refine bodyPost_ret (v := .tuple #[.slice x k cap, .int .i64 (S.now + D), .int .i64 0]) (by simp [results, Tryz.results120, go_sem]) rfl ?_
      have hT := hrow3.out
      refine ⟨⟨.slice x k cap, ?_, ?_, fun h => absurd hw.out h⟩, hB3.out⟩
      · rw [hw.out]
        unfold fromH
        rw [if_pos hw.out, hAr.out.1]
      · unfold fromT
        rw [if_pos hw.out]
        exact hT
    · have hw : Hid (fromE v l t i by_ = 9) := Lib.hid (hlate.out (by rw [hAr.out.2]; simpa using hle))
      go_wp2
      refine bodyPost_ret (v := .tuple #[.slice none 0 0, .int .i64 0, .int .i64 9]) (by simp [results, Tryz.results120, go_sem]) rfl ?_
      exact ⟨⟨_, by rw [(from_nil (by rw [hw.out]; omega)).2, hw.out], by rw [(from_nil (by rw [hw.out]; omega)).1]; exact RowB.nil _ _ _, fun _ => rfl⟩, hB3.out⟩
end Go.Proofs.YtlbghdiebjldjaaGreatDoor.Slack
namespace Go.Proofs.YtlbghdiebjldjaaGreatDoor.Cheap
open Go.RowKit Go.Sort Go.Proofs.YtlbghdiebjldjaaGreatDoor.Mem Go.Proofs.YtlbghdiebjldjaaGreatDoor.Order Go.Proofs.YtlbghdiebjldjaaGreatDoor.Route Go.Proofs.YtlbghdiebjldjaaGreatDoor.When Go.Proofs.YtlbghdiebjldjaaGreatDoor.Load Go.Proofs.YtlbghdiebjldjaaGreatDoor.Ins
set_option linter.unusedVariables false
theorem refFrom0 (v : Vh) (vl vt : Value) (l : List (Int × Int)) (t : List Rq) (hl : l.length ≤ 1000000) (hnum : Nums l) (w : World) (hL : Row w.heap.size w vl l) (hT : Rqs w.heap.size w vt t) :
 Calls Tryz.prog 120 #[.agg #[.int .i64 v.hx, .int .i64 v.hy, .int .i64 v.cp, .int .i64 v.st, .int .i64 v.en], vl, vt, .int .i64 (-1), .int .i64 0] w fun e w' =>
  (∃ x N c, e = .returned (.tuple #[.slice x N c, .int .i64 (homeT v l t), .int .i64 (errT v l t)])) ∧ Below w.heap.size w w' := by
 refine (Slack.From_all v vl vt l t hl hnum (-1) 0 (by omega) w hL hT).mono ?_
 rintro e w' ⟨⟨u, rfl, hu, -⟩, hb⟩
 rw [Slack.fromE_no (.inl rfl), (Slack.from_no (.inl rfl)).2]
 obtain ⟨x, N, c, rfl, -⟩ := hu.opened
 exact ⟨⟨x, N, c, rfl⟩, hb⟩
set_option maxRecDepth 100000 in
set_option maxHeartbeats 4000000 in
theorem right_any (v : Vh) (vl vt : Value) (l : List (Int × Int)) (t : List Rq) (hl : l.length ≤ 1000000) (hnum : Nums l) (r : Int) (w : World) (hL : Row w.heap.size w vl l) (hT : Rqs w.heap.size w vt t) :
 Calls Tryz.prog 119 #[.agg #[.int .i64 v.hx, .int .i64 v.hy, .int .i64 v.cp, .int .i64 v.st, .int .i64 v.en], vl, vt, .int .i64 r] w fun e w' =>
  e = .returned (.int .i64 (rightE v l t r)) ∧ Below w.heap.size w w' := by
 obtain ⟨w0, hw0⟩ : ∃ w0, w.alloc (.cells #[.int .i64 v.hx, .int .i64 v.hy, .int .i64 v.cp, .int .i64 v.st, .int .i64 v.en] 64) = w0 := ⟨_, rfl⟩
 obtain ⟨q, hq⟩ : ∃ q, w.heap.size = q := ⟨_, rfl⟩
 have hB0 : Below q w w0 := by rw [← hw0]; exact (Below.refl _ _).alloc (by omega) _
 have hP : At w0 q 64 #[.int .i64 v.hx, .int .i64 v.hy, .int .i64 v.cp, .int .i64 v.st, .int .i64 v.en] := by rw [← hw0]; exact At.new_ _ _ _ hq.symm
 rw [hq] at hL hT
 have hs0 : q < w0.heap.size := hP.inside
 have hTi := fun (w1 : World) (hb : Below w0.heap.size w0 w1) => refFrom0 v vl vt l t hl hnum w1 (((hL.keep hB0 (Nat.le_refl _)).more (by omega : q ≤ w0.heap.size)).on hb) (((hT.keep hB0 (Nat.le_refl _)).more (by omega : q ≤ w0.heap.size)).on hb)
 obtain ⟨xl, Nl, capl, rfl, hNl, hl0, hlc1, hlc2⟩ := hL.opened
 obtain ⟨xt, Nt, capt, rfl, hNt0, htc1, htc2, ht0⟩ := hT.opened
 have hNt := Lib.hid hNt0
 have hL' := Lib.hid hL
 have hT' := Lib.hid hT
 rw [hNl.out] at hl
 have p0 := hP.cell 0
 have p1 := hP.cell 1
 have p2 := hP.cell 2
 have p3 := hP.cell 3
 have p4 := hP.cell 4
 simp at p0 p1 p2 p3 p4
 have hP' := Lib.hid hP
 have hB0' := Lib.hid hB0
 have hq' := Lib.hid hq
 have hw0' := Lib.hid hw0
 unfold maxLen at hlc2 htc2
 clear hL hT hNt0 ht0 hl0 hnum hP hB0 hq hw0
 have fin : ∀ w', Below q w w' → Below w.heap.size w w' := fun w' h => by rw [hq'.out]; exact h
 have fin' := Lib.hid fin
 clear fin
 by_cases h1 : r < 0
 · have he := Lib.hid (rightE_req (v := v) (l := l) (t := t) (r := r) (by simp [inT]; omega))
   clear hTi
   go_enter Tryz.func119, Tryz.ntmps119
   go_wp2
   go_ret
   exact ⟨Route.ret_int he.out.symm, by rw [hw0'.out]; exact fin'.out _ hB0'.out⟩
 by_cases h2 : (Nt : Int) ≤ r
 · have he := Lib.hid (rightE_req (v := v) (l := l) (t := t) (r := r) (by have := hNt.out; simp [inT]; omega))
   clear hTi
   go_enter Tryz.func119, Tryz.ntmps119
   go_wp2
   go_ret
   exact ⟨Route.ret_int he.out.symm, by rw [hw0'.out]; exact fin'.out _ hB0'.out⟩
 have hin : Hid (inT t r = true) := Lib.hid (inT_iff.2 ⟨by omega, by rw [hNt.out]; omega⟩)
 obtain ⟨R, rfl⟩ : ∃ R : Nat, r = R := ⟨r.toNat, by omega⟩
 have hRN : R < Nt := by omega
 obtain ⟨qr, hqr⟩ : ∃ qr, t[R]? = some qr := ⟨t[R]'(by rw [hNt.out]; exact hRN), List.getElem?_eq_getElem _⟩
 have hrc := Lib.hid (reqC_at hqr)
 have hqr' := Lib.hid hqr
 clear hqr
 have hTi' := Lib.hid hTi
 have hpp := Lib.hid (And.intro p0 (And.intro p1 (And.intro p2 (And.intro p3 p4))))
 clear hTi p0 p1 p2 p3 p4
 go_enter Tryz.func119, Tryz.ntmps119
 go_wp2
 try simp only [hq'.out]
 try rw [hw0'.out]
 go_loopw [9] (fun c wr => ∃ k : Nat, k ≤ Nl ∧ c = .int .i64 k ∧ Hid (noR R (l.take k) = true) ∧ wr = w0)
  (fun c _ => Nl - (intOf c).toNat)
 case atStart => exact ⟨0, Nat.zero_le _, rfl, Lib.hid (by simp [noR]), rfl⟩
 case round =>
  obtain ⟨k, hk, rfl, hno, rfl⟩ := hrel
  by_cases hlt : k < Nl
  · obtain ⟨⟨s1, s2⟩, hs⟩ : ∃ s, l[k]? = some s := ⟨l[k]'(by rw [hNl.out]; exact hlt), List.getElem?_eq_getElem _⟩
    obtain ⟨g, o, rfl, hg, e1, e2⟩ := Row.stop (hL'.out.keep hB0'.out (Nat.le_refl _)) hs
    simp at e1 e2
    have hNg : Hid (k + 1 ≤ Nl) := Lib.hid hlt
    cases he : (s1 == (R : Int))
    · have hn2 : Hid (noR R (l.take (k + 1)) = true) := Lib.hid (noRs hs (by simpa using he) hno.out)
      clear hs hno
      go_wp2
      go_roundw
      case rel => exact ⟨k + 1, hNg.out, by go_num, hn2, by first | trivial | rfl⟩
      case measure => simp [intOf]; omega
    · have hee := Lib.hid (rightE_req (v := v) (l := l) (t := t) (r := R) (by rw [noRh hs (by simpa using he), Bool.and_false]))
      clear hs hno
      go_wp2
      go_ret
      exact ⟨Route.ret_int hee.out.symm, fin'.out _ hB0'.out⟩
  · obtain rfl : k = Nl := by omega
    have hn : l.take k = l := by rw [← hNl.out, List.take_length]
    rw [hn] at hno
    have hto : Hid ((inT t R && noR R l) = true) := Lib.hid (by rw [hin.out, hno.out]; rfl)
    obtain ⟨p0, p1, p2, p3, p4⟩ := hpp.out
    obtain ⟨gt, ot, rfl, hgt, d0, d1, d2, d3, d4, d5, d6, d7, d8, d9⟩ := Rqs.at (hT'.out.keep hB0'.out (Nat.le_refl _)) hqr'.out
    have hc := refCheck_any qr.fx qr.fy qr.tx qr.ty qr.pe qr.pl qr.de qr.dl qr.ld qr.sv wr
    clear hn hno
    obtain ⟨C, hC⟩ : ∃ C, chk qr.fx qr.fy qr.tx qr.ty qr.pe qr.pl qr.de qr.dl qr.ld qr.sv = C := ⟨_, rfl⟩
    rw [hC] at hc
    have hrcC := Lib.hid (show reqC t R = C from hrc.out.trans hC)
    clear hC
    go_wp2_with fail
    refine hc.mono ?_
    clear hc
    rintro e w2 ⟨rfl, hb2⟩
    have hB2 := Lib.hid (hB0'.out.trans (hb2.mono (by omega : q ≤ wr.heap.size)))
    have hb2' := Lib.hid hb2
    have hP2 := Lib.hid (hP'.out.keep hb2 (by omega))
    clear p0 p1 p2 p3 p4 d0 d1 d2 d3 d4 d5 d6 d7 d8 d9 hb2
    have hs2 : q < w2.heap.size := hP2.out.inside
    cases hC0 : (C == 0)
    · have hC1 : (C != 0) = true := by simpa using hC0
      have he := Lib.hid (rightE_arg (v := v) hto.out (.inl (by rw [hrcC.out]; simpa using hC0)))
      go_wp2
      go_ret
      exact ⟨Route.ret_int he.out.symm, fin'.out _ hB2.out⟩
    have hC1 : (C != 0) = false := by simpa using hC0
    have hrz := Lib.hid (show reqC t R = 0 by rw [hrcC.out]; simpa using hC0)
    have hv := refVehicle_any v.hx v.hy v.cp v.st v.en w2
    obtain ⟨D, hD⟩ : ∃ D, veh v.hx v.hy v.cp v.st v.en = D := ⟨_, rfl⟩
    rw [hD] at hv
    have hvD := Lib.hid (show v.chk = D from hD)
    have p0 := hP2.out.cell 0
    have p1 := hP2.out.cell 1
    have p2 := hP2.out.cell 2
    have p3 := hP2.out.cell 3
    have p4 := hP2.out.cell 4
    simp at p0 p1 p2 p3 p4
    clear hD
    go_wp2_with fail
    refine hv.mono ?_
    clear hv p0 p1 p2 p3 p4
    rintro e w3 ⟨rfl, hb3⟩
    have hB3 := Lib.hid (hB2.out.trans (hb3.mono (by omega : q ≤ w2.heap.size)))
    have hb3' := Lib.hid (hb2'.out.trans (hb3.mono hb2'.out.size))
    have hP3 := Lib.hid (hP2.out.keep hb3 (by omega))
    clear hb3
    have hs3 : q < w3.heap.size := hP3.out.inside
    cases hD0 : (D == 0)
    · have hD1 : (D != 0) = true := by simpa using hD0
      have he := Lib.hid (rightE_arg (t := t) (r := R) (v := v) hto.out (.inr (by rw [hvD.out]; simpa using hD0)))
      go_wp2
      go_ret
      exact ⟨Route.ret_int he.out.symm, fin'.out _ hB3.out⟩
    have hD1 : (D != 0) = false := by simpa using hD0
    have hvz := Lib.hid (show v.chk = 0 by rw [hvD.out]; simpa using hD0)
    have hTi := hTi'.out w3 hb3'.out
    obtain ⟨E, hE⟩ : ∃ E, errT v l t = E := ⟨_, rfl⟩
    rw [hE] at hTi
    have hE' := Lib.hid hE
    have p0 := hP3.out.cell 0
    have p1 := hP3.out.cell 1
    have p2 := hP3.out.cell 2
    have p3 := hP3.out.cell 3
    have p4 := hP3.out.cell 4
    simp at p0 p1 p2 p3 p4
    clear hE
    go_wp2_with fail
    refine hTi.mono ?_
    clear hTi p0 p1 p2 p3 p4
    rintro e w4 ⟨⟨x, N, c, rfl⟩, hb4⟩
    have hB4 := Lib.hid (hB3.out.trans (hb4.mono (by omega : q ≤ w3.heap.size)))
    clear hb4
    by_cases hn9 : E = 9
    · have he := Lib.hid (rightE_late hto.out hrz.out hvz.out (hE'.out.trans hn9))
      subst hn9
      go_wp2
      go_ret
      exact ⟨Route.ret_int he.out.symm, fin'.out _ hB4.out⟩
    have hn9' : (E == 9) = false := by simpa using hn9
    cases hE0 : (E == 0)
    · have hE1 : (E != 0) = true := by simpa using hE0
      have he := Lib.hid (rightE_err hto.out hrz.out hvz.out (by rw [hE'.out]; exact hn9) (by rw [hE'.out]; simpa using hE0))
      rw [hE'.out] at he
      go_wp2
      go_ret
      exact ⟨Route.ret_int he.out.symm, fin'.out _ hB4.out⟩
    have hE1 : (E != 0) = false := by simpa using hE0
    have hEz := Lib.hid (show errT v l t = 0 by rw [hE'.out]; simpa using hE0)
    by_cases h14 : 14 < k
    · have he := Lib.hid (rightE_count hto.out hrz.out hvz.out hEz.out (by rw [hNl.out]; exact h14))
      have h3i : (16 : Int) < (k : Int) + 2 := by omega
      go_wp2
      go_ret
      exact ⟨Route.ret_int he.out.symm, fin'.out _ hB4.out⟩
    · have he := Lib.hid (rightE_ok hto.out hrz.out hvz.out hEz.out (by rw [hNl.out]; exact h14))
      have h3i : ¬ (16 : Int) < (k : Int) + 2 := by omega
      go_wp2
      go_ret
      exact ⟨Route.ret_int he.out.symm, fin'.out _ hB4.out⟩
end Go.Proofs.YtlbghdiebjldjaaGreatDoor.Cheap

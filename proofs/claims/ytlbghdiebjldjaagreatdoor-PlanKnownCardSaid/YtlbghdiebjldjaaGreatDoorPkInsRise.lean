import Derived.Test.YtlbghdiebjldjaaGreatDoorPkInsKp
import Derived.Test.YtlbghdiebjldjaaGreatDoorPkInsIdx
import Derived.Test.YtlbghdiebjldjaaGreatDoorPkLoadRefProf
import Derived.Test.YtlbghdiebjldjaaGreatDoorPkSlackRefFrom

namespace Go.Proofs.YtlbghdiebjldjaaGreatDoor.Ins
open Go.RowKit Go.Sort Go.Proofs.YtlbghdiebjldjaaGreatDoor.Mem Go.Proofs.YtlbghdiebjldjaaGreatDoor.Route Go.Proofs.YtlbghdiebjldjaaGreatDoor.When Go.Proofs.YtlbghdiebjldjaaGreatDoor.Load
set_option linter.unusedVariables false
theorem ret_ii {a b c d : Int} (h : a = b) (h2 : c = d) : Ending.returned (.tuple #[.int .i64 a, .int .i64 c]) = .returned (.tuple #[.int .i64 b, .int .i64 d]) := by rw [h, h2]
theorem i64_of {t : List Rq} {r : Int} (ht : t.length ≤ maxLen) (h : inT t r = true) : I64 r := by
 have := inT_iff.1 h
 unfold maxLen at ht
 exact ⟨by omega, by omega⟩
set_option maxRecDepth 100000 in
set_option maxHeartbeats 4000000 in
theorem Rise_any (v : Vh) (vl vt : Value) (l : List (Int × Int)) (t : List Rq) (hl : l.length ≤ 1000000) (hnum : Nums l) (r i j : Int) (w : World) (hsg : Sg w) (hL : Row w.heap.size w vl l) (hT : Rqs w.heap.size w vt t) :
 Calls Tryz.prog 25 #[.agg #[.int .i64 v.hx, .int .i64 v.hy, .int .i64 v.cp, .int .i64 v.st, .int .i64 v.en], vl, vt, .int .i64 r, .int .i64 i, .int .i64 j] w fun e w' =>
  e = .returned (.tuple #[.int .i64 (riseV v l t r i j), .int .i64 (riseE v l t r i j)]) ∧ Below w.heap.size w w' := by
 obtain ⟨w0, hw0⟩ : ∃ w0, w.alloc (.cells #[.int .i64 v.hx, .int .i64 v.hy, .int .i64 v.cp, .int .i64 v.st, .int .i64 v.en] 64) = w0 := ⟨_, rfl⟩
 obtain ⟨q, hq⟩ : ∃ q, w.heap.size = q := ⟨_, rfl⟩
 have hB0 : Below q w w0 := by rw [← hw0]; exact (Below.refl _ _).alloc (by omega) _
 have hP : At w0 q 64 #[.int .i64 v.hx, .int .i64 v.hy, .int .i64 v.cp, .int .i64 v.st, .int .i64 v.en] := by rw [← hw0]; exact At.new_ _ _ _ hq.symm
 have hsg0 : Sg w0 := hsg.on (by rw [hq]; exact hB0)
 rw [hq] at hL hT
 have hs0 : q < w0.heap.size := hP.inside
 have hW := with_any v vl vt l t hl hnum r i j w0 ((hL.keep hB0 (Nat.le_refl _)).more (by omega)) ((hT.keep hB0 (Nat.le_refl _)).more (by omega))
 obtain ⟨xl, Nl, capl, rfl, hNl, hl0, hlc1, hlc2⟩ := hL.opened
 obtain ⟨xt, Nt, capt, rfl, hNt0, htc1, htc2, ht0⟩ := hT.opened
 have hNt := Lib.hid hNt0
 have hI : Hid (inT t r = true → I64 r) := Lib.hid (i64_of (by rw [hNt0]; omega))
 have hT' := Lib.hid hT
 have hnum' := Lib.hid hnum
 have p0 := hP.cell 0
 have p1 := hP.cell 1
 have p2 := hP.cell 2
 have p3 := hP.cell 3
 have p4 := hP.cell 4
 simp at p0 p1 p2 p3 p4
 have hP' := Lib.hid hP
 have hB0' := Lib.hid hB0
 have hsg0' := Lib.hid hsg0
 have hq' := Lib.hid hq
 have hw0' := Lib.hid hw0
 obtain ⟨E, hE⟩ : ∃ E, withE v l t r i j = E := ⟨_, rfl⟩
 obtain ⟨H, hH⟩ : ∃ H, endW v l t r i j = H := ⟨_, rfl⟩
 rw [hE, hH] at hW
 have hE' := Lib.hid hE
 have hH' := Lib.hid hH
 clear hL hT hNt0 ht0 hl0 hl hnum hP hB0 hsg hsg0 hq hw0 hE hH
 go_enter Tryz.func25, Tryz.ntmps25
 go_wp2_with fail
 try simp only [hq'.out]
 try rw [hw0'.out]
 refine hW.mono ?_
 clear hW p0 p1 p2 p3 p4
 rintro e w1 ⟨⟨u, rfl, hu⟩, hb1⟩
 have hB1 := Lib.hid (hB0'.out.trans (hb1.mono (by omega : q ≤ w0.heap.size)))
 have hP1 := Lib.hid (hP'.out.keep hb1 hs0)
 have hsg1 := Lib.hid (hsg0'.out.on hb1)
 have hs1 : q < w1.heap.size := hP1.out.inside
 have hu' := Lib.hid hu
 clear hu hb1 hs0
 cases he0 : (E == 0)
 · have he1 : (E != 0) = true := by simpa using he0
   have he : Hid (riseE v l t r i j = E ∧ riseE v l t r i j ≠ 0) := Lib.hid (by
    have h1 : withE v l t r i j ≠ 0 := by rw [hE'.out]; simpa using he0
    rw [riseE_with h1, hE'.out]
    exact ⟨rfl, by simpa using he0⟩)
   go_wp2
   refine bodyPost_ret (v := .tuple #[.int .i64 0, .int .i64 E]) (by simp [results, Tryz.results25, go_sem]) rfl ?_
   exact ⟨ret_ii (riseV_no he.out.2).symm he.out.1.symm, by first | exact hB1.out | (rw [hq'.out]; exact hB1.out)⟩
 have he1 : (E != 0) = false := by simpa using he0
 have hz : Hid (withE v l t r i j = 0) := Lib.hid (by rw [hE'.out]; simpa using he0)
 have hzz := withE_zero hz.out
 have hmr : Row w1.heap.size w1 u (moreL l r i j) := by have := hu'.out; unfold WithOk at this; rwa [if_pos hz.out] at this
 have hmn : Nums (moreL l r i j) := moreL_nums hnum'.out (hI.out (by have := hzz.1; simp only [Bool.and_eq_true] at this; exact this.1))
 have hml : (moreL l r i j).length ≤ 1000000 := by rw [moreL_length hzz.2.2.2.2]; have := hzz.2.2.1; omega
 obtain ⟨m, hm⟩ : ∃ m, moreL l r i j = m := ⟨_, rfl⟩
 rw [hm] at hmr hmn hml
 have hm' := Lib.hid hm
 have hmr' := Lib.hid hmr
 have hmn' := Lib.hid hmn
 have hml' := Lib.hid hml
 have hHz : Hid (H = homeT v l t) := Lib.hid (by rw [← hH'.out]; exact endW_yes hz.out)
 have hHb : 0 ≤ H ∧ H ≤ 3000000 := by rw [hHz.out]; exact homeT_bd v l t
 have hF := Fits_any v u _ m t hml hmn w1 hsg1.out hmr ((hT'.out.keep hB1.out (Nat.le_refl _)).more (by omega))
 obtain ⟨xu, Nu, cu, rfl, -⟩ := hmr.opened
 have p0 := hP1.out.cell 0
 have p1 := hP1.out.cell 1
 have p2 := hP1.out.cell 2
 have p3 := hP1.out.cell 3
 have p4 := hP1.out.cell 4
 simp at p0 p1 p2 p3 p4
 obtain ⟨F, hFe⟩ : ∃ F, fitE v m t = F := ⟨_, rfl⟩
 obtain ⟨G, hGe⟩ : ∃ G, fitAt v m t = G := ⟨_, rfl⟩
 rw [hFe, hGe] at hF
 have hFe' := Lib.hid hFe
 clear hmr hmn hml hm hzz hFe hGe
 go_wp2_with fail
 refine hF.mono ?_
 clear hF p0 p1 p2 p3 p4
 rintro e w2 ⟨rfl, hb2⟩
 have hB2 := Lib.hid (hB1.out.trans (hb2.mono (by omega : q ≤ w1.heap.size)))
 have hP2 := Lib.hid (hP1.out.keep hb2 hs1)
 have hs2 : q < w2.heap.size := hP2.out.inside
 have hmr2 := Lib.hid (hmr'.out.on hb2)
 clear hb2 hs1
 cases hf0 : (F == 0)
 · have hf1 : (F != 0) = true := by simpa using hf0
   have he : Hid (riseE v l t r i j = F ∧ riseE v l t r i j ≠ 0) := Lib.hid (by
    have h1 : fitE v (moreL l r i j) t ≠ 0 := by rw [hm'.out, hFe'.out]; simpa using hf0
    rw [riseE_fit hz.out h1, hm'.out, hFe'.out]
    exact ⟨rfl, by simpa using hf0⟩)
   go_wp2
   refine bodyPost_ret (v := .tuple #[.int .i64 0, .int .i64 F]) (by simp [results, Tryz.results25, go_sem]) rfl ?_
   exact ⟨ret_ii (riseV_no he.out.2).symm he.out.1.symm, by first | exact hB2.out | (rw [hq'.out]; exact hB2.out)⟩
 have hf1 : (F != 0) = false := by simpa using hf0
 have hfz : Hid (fitE v (moreL l r i j) t = 0) := Lib.hid (by rw [hm'.out, hFe'.out]; simpa using hf0)
 have hTi := Times_all v _ _ m t hml'.out hmn'.out w2 hmr2.out ((hT'.out.keep hB2.out (Nat.le_refl _)).more (by omega))
 have p0 := hP2.out.cell 0
 have p1 := hP2.out.cell 1
 have p2 := hP2.out.cell 2
 have p3 := hP2.out.cell 3
 have p4 := hP2.out.cell 4
 simp at p0 p1 p2 p3 p4
 obtain ⟨K, hKe⟩ : ∃ K, errT v m t = K := ⟨_, rfl⟩
 obtain ⟨L, hLe⟩ : ∃ L, homeT v m t = L := ⟨_, rfl⟩
 rw [hKe, hLe] at hTi
 have hLb : 0 ≤ L ∧ L ≤ 3000000 := by rw [← hLe]; exact homeT_bd v m t
 have hKe' := Lib.hid hKe
 have hLe' := Lib.hid hLe
 clear hKe hLe
 go_wp2_with fail
 refine hTi.mono ?_
 clear hTi p0 p1 p2 p3 p4
 rintro e w3 ⟨⟨u3, rfl, hu3, _⟩, hb3⟩
 have hB3 := Lib.hid (hB2.out.trans (hb3.mono (by omega : q ≤ w2.heap.size)))
 obtain ⟨x3, N3, c3, rfl, -⟩ := hu3.opened
 clear hb3 hs2 hu3
 have hre : Hid (riseE v l t r i j = K) := Lib.hid (by rw [riseE_err hz.out hfz.out, hm'.out, hKe'.out])
 cases hk0 : (K == 0)
 · have hk1 : (K != 0) = true := by simpa using hk0
   have he : Hid (riseE v l t r i j ≠ 0) := Lib.hid (by rw [hre.out]; simpa using hk0)
   go_wp2
   refine bodyPost_ret (v := .tuple #[.int .i64 0, .int .i64 K]) (by simp [results, Tryz.results25, go_sem]) rfl ?_
   exact ⟨ret_ii (riseV_no he.out).symm hre.out.symm, by first | exact hB3.out | (rw [hq'.out]; exact hB3.out)⟩
 have hk1 : (K != 0) = false := by simpa using hk0
 have he : Hid (riseE v l t r i j = 0) := Lib.hid (by rw [hre.out]; simpa using hk0)
 have hv : Hid (riseV v l t r i j = L - H) := Lib.hid (by rw [riseV_ok he.out, hm'.out, hLe'.out, hHz.out])
 go_wp2
 refine bodyPost_ret (v := .tuple #[.int .i64 (L - H), .int .i64 0]) (by simp [results, Tryz.results25, go_sem]) rfl ?_
 exact ⟨ret_ii hv.out.symm he.out.symm, by first | exact hB3.out | (rw [hq'.out]; exact hB3.out)⟩
end Go.Proofs.YtlbghdiebjldjaaGreatDoor.Ins
namespace Go.Proofs.YtlbghdiebjldjaaGreatDoor.Cheap
open Go.RowKit Go.Sort Go.Proofs.YtlbghdiebjldjaaGreatDoor.Mem Go.Proofs.YtlbghdiebjldjaaGreatDoor.Order Go.Proofs.YtlbghdiebjldjaaGreatDoor.Route Go.Proofs.YtlbghdiebjldjaaGreatDoor.When Go.Proofs.YtlbghdiebjldjaaGreatDoor.Load Go.Proofs.YtlbghdiebjldjaaGreatDoor.Ins
set_option linter.unusedVariables false
def wyC (y : Wy) : List Value := [.int .i64 y.i, .int .i64 y.j, .int .i64 y.n]
def flatW (l : List Wy) : List Value := (l.map wyC).flatten
theorem flatW_snoc (l : List Wy) (y : Wy) : flatW (l ++ [y]) = flatW l ++ [.int .i64 y.i, .int .i64 y.j, .int .i64 y.n] := by simp [flatW, wyC]
def Wys (B : Nat) (W : World) (v : Value) (l : List Wy) : Prop := RowB B W v 3 (l.map wyC)
theorem Wys.of_owns {B : Nat} {W : World} {base n : Nat} {e : TypeId} {v : Value} {l : List Wy} (h : W.ownsRow base e 3 v n (flatW l)) (hn : n = l.length) (hB : W.heap.size ≤ B) : Wys B W v l :=
 RowB.of_owns h (by simpa using hn) (fun r hr => by obtain ⟨s, _, rfl⟩ := List.mem_map.1 hr; rfl) hB
theorem Wys.at {B : Nat} {W : World} {x : Option Addr} {n cap : Nat} {l : List Wy} (h : Wys B W (.slice x n cap) l) {k : Nat} {y : Wy} (hk : l[k]? = some y) :
 ∃ g o, x = some ⟨g, o, none⟩ ∧ g < B ∧ W.cell? ⟨g, o + k * 3, none⟩ = some (.int .i64 y.i) ∧ W.cell? ⟨g, o + k * 3 + 1, none⟩ = some (.int .i64 y.j) ∧ W.cell? ⟨g, o + k * 3 + 2, none⟩ = some (.int .i64 y.n) := by
 obtain ⟨g, o, e, hg, hc⟩ := RowB.row h (j := k) (r := wyC y) (by rw [List.getElem?_map, hk]; rfl)
 exact ⟨g, o, e, hg, hc 0 _ rfl, hc 1 _ rfl, hc 2 _ rfl⟩
theorem Wys.keep {B C : Nat} {W W' : World} {v : Value} {l : List Wy} (h : Wys B W v l) (hb : Below C W W') (hB : B ≤ C) : Wys B W' v l := RowB.keep h hb hB
theorem Wys.opened {B : Nat} {W : World} {v : Value} {t : List Wy} (h : Wys B W v t) : ∃ x N cap, v = .slice x N cap ∧ t.length = N ∧ N ≤ cap ∧ cap ≤ maxLen := by
 obtain ⟨x, cap, rfl, h1, h2, h0, _⟩ := h
 exact ⟨x, t.length, cap, by simp, rfl, by simpa using h1, h2⟩
theorem info_way : (Tryz.prog.info? 127).map (fun i => (i.zero, i.size, i.bytes)) = some (some (.agg #[.int .i64 0, .int .i64 0, .int .i64 0]), 3, 24) := by kernel_rfl
theorem waysP_len (v : Vh) (l : List (Int × Int)) (t : List Rq) (r : Int) (ps : List (Int × Int)) : (waysP v l t r ps).length ≤ ps.length := List.length_filterMap_le _ _
def allR (v : Vh) (l : List (Int × Int)) (t : List Rq) (r : Int) : List Wy := if rightE v l t r = 0 ∧ errT v l t = 0 then waysP v l t r (pairsL l.length) else []
theorem allR_no {v : Vh} {l : List (Int × Int)} {t : List Rq} {r : Int} (h : ¬ (rightE v l t r = 0 ∧ errT v l t = 0)) : allR v l t r = [] := by unfold allR; rw [if_neg h]
theorem allR_yes {v : Vh} {l : List (Int × Int)} {t : List Rq} {r : Int} (h : rightE v l t r = 0) (h2 : errT v l t = 0) : allR v l t r = waysP v l t r (pairsL l.length) := by unfold allR; rw [if_pos ⟨h, h2⟩]
theorem rightE_zero {v : Vh} {l : List (Int × Int)} {t : List Rq} {r : Int} (h : rightE v l t r = 0) (h2 : errT v l t = 0) : (inT t r && noR r l) = true ∧ l.length ≤ 14 := by
 cases h1 : (inT t r && noR r l)
 · rw [rightE_req h1] at h; omega
 refine ⟨rfl, ?_⟩
 unfold rightE at h
 rw [if_neg (by simp [h1])] at h
 split at h
 · omega
 rw [if_neg (by omega), if_neg (by omega)] at h
 split at h
 · omega
 · omega
theorem pair_of {v : Vh} {l : List (Int × Int)} {t : List Rq} {r : Int} (h : rightE v l t r = 0) (h2 : errT v l t = 0) {k m : Nat} (hk : k ≤ m) (hm : m ≤ l.length) :
 mayW l r k m = true ∧ withV l r k m = moreL l r k m ∧ (moreL l r k m).length ≤ 16 ∧ (riseE v l t r k m = if fitE v (moreL l r k m) t ≠ 0 then fitE v (moreL l r k m) t else errT v (moreL l r k m) t) := by
 obtain ⟨h3, h4⟩ := rightE_zero h h2
 have hmay : mayW l r k m = true := by rw [mayW_places h3 (by omega)]; exact placesB_iff.2 ⟨by omega, by omega, by omega⟩
 refine ⟨hmay, withV_more hmay, by rw [moreL_length hmay]; omega, ?_⟩
 have hw : withE v l t r k m = 0 := withE_ok h3 h2 (by omega) (placesB_iff.2 ⟨by omega, by omega, by omega⟩)
 unfold riseE
 rw [if_neg (by omega)]
set_option maxRecDepth 100000 in
set_option maxHeartbeats 8000000 in
theorem refAll_any (v : Vh) (vl vt : Value) (l : List (Int × Int)) (t : List Rq) (hl : l.length ≤ 1000000) (hnum : Nums l) (r : Int) (w : World) (hL : Row w.heap.size w vl l) (hT : Rqs w.heap.size w vt t) :
 Calls Tryz.prog 95 #[.agg #[.int .i64 v.hx, .int .i64 v.hy, .int .i64 v.cp, .int .i64 v.st, .int .i64 v.en], vl, vt, .int .i64 r] w fun e w' =>
  (∃ u, e = .returned (.tuple #[u, .int .i64 (rightE v l t r)]) ∧ Wys w'.heap.size w' u (allR v l t r)) ∧ Below w.heap.size w w' := by
 obtain ⟨i0, hi, hz0, hz1, hz2⟩ := info_parts info_way
 obtain ⟨w0, hw0⟩ : ∃ w0, w.alloc (.cells #[.int .i64 v.hx, .int .i64 v.hy, .int .i64 v.cp, .int .i64 v.st, .int .i64 v.en] 64) = w0 := ⟨_, rfl⟩
 obtain ⟨q, hq⟩ : ∃ q, w.heap.size = q := ⟨_, rfl⟩
 have hB0 : Below q w w0 := by rw [← hw0]; exact (Below.refl _ _).alloc (by omega) _
 have hP : At w0 q 64 #[.int .i64 v.hx, .int .i64 v.hy, .int .i64 v.cp, .int .i64 v.st, .int .i64 v.en] := by rw [← hw0]; exact At.new_ _ _ _ hq.symm
 have hs0 : w0.heap.size = q + 1 := by rw [← hw0]; simp [hq]
 rw [hq] at hL hT
 have hRt := right_any v vl vt l t hl hnum r w0 ((hL.keep hB0 (Nat.le_refl _)).more (by omega)) ((hT.keep hB0 (Nat.le_refl _)).more (by omega))
 obtain ⟨xl, Nl, capl, rfl, hNl, hl0, hlc1, hlc2⟩ := hL.opened
 obtain ⟨xt, Nt, capt, rfl, hNt0, htc1, htc2, ht0⟩ := hT.opened
 have hNt := Lib.hid hNt0
 have hL' := Lib.hid hL
 have hT' := Lib.hid hT
 have p0 := hP.cell 0
 have p1 := hP.cell 1
 have p2 := hP.cell 2
 have p3 := hP.cell 3
 have p4 := hP.cell 4
 simp at p0 p1 p2 p3 p4
 have hP' := Lib.hid hP
 have hB0' := Lib.hid hB0
 have hq' := Lib.hid hq
 have hw0' := Lib.hid hw0
 have hs0' := Lib.hid hs0
 have hnum' := Lib.hid hnum
 have hl' := Lib.hid hl
 unfold maxLen at hlc2 htc2
 clear hL hT hNt0 ht0 hl0 hnum hP hB0 hq hw0 hs0 hl
 have fin' : Hid (∀ w', Below q w w' → Below w.heap.size w w') := Lib.hid (fun w' h => by rw [hq'.out]; exact h)
 obtain ⟨E, hE⟩ : ∃ E, rightE v l t r = E := ⟨_, rfl⟩
 rw [hE] at hRt ⊢
 have hE' := Lib.hid hE
 clear hE
 go_enter Tryz.func95, Tryz.ntmps95
 go_upto_region 1 with fail
 try simp only [hq'.out]
 try rw [hw0'.out]
 go_wp2_with fail
 refine hRt.mono ?_
 clear hRt p0 p1 p2 p3 p4
 rintro e w1 ⟨rfl, hb1⟩
 have hB1 := Lib.hid (hB0'.out.trans (hb1.mono (by have := hs0'.out; omega : q ≤ w0.heap.size)))
 have hP1 := Lib.hid (hP'.out.keep hb1 (by have := hs0'.out; omega))
 have hs1 : q < w1.heap.size := hP1.out.inside
 clear hb1
 cases hE0 : (E == 0)
 · have hE1 : (E != 0) = true := by simpa using hE0
   have he := Lib.hid (allR_no (v := v) (l := l) (t := t) (r := r) (fun h => by have := h.1; rw [hE'.out] at this; rw [this] at hE0; simp at hE0))
   go_wp2
   refine bodyPost_ret (v := .tuple #[.slice none 0 0, .int .i64 E]) (by simp [results, Tryz.results95, go_sem]) rfl ?_
   exact ⟨⟨_, rfl, by rw [he.out]; exact RowB.nil _ _ _⟩, fin'.out _ hB1.out⟩
 have hE1 : (E != 0) = false := by simpa using hE0
 obtain rfl : E = 0 := by simpa using hE0
 have hF0 := refFrom0 v _ _ l t hl'.out hnum'.out w1 ((hL'.out.keep hB1.out (Nat.le_refl _)).more (by omega)) ((hT'.out.keep hB1.out (Nat.le_refl _)).more (by omega))
 obtain ⟨H, hH⟩ : ∃ H, homeT v l t = H := ⟨_, rfl⟩
 obtain ⟨G, hG⟩ : ∃ G, errT v l t = G := ⟨_, rfl⟩
 rw [hH, hG] at hF0
 have hHb : 0 ≤ H ∧ H ≤ 3000000 := by rw [← hH]; exact homeT_bd v l t
 have hH' := Lib.hid hH
 have hG' := Lib.hid hG
 have p0 := hP1.out.cell 0
 have p1 := hP1.out.cell 1
 have p2 := hP1.out.cell 2
 have p3 := hP1.out.cell 3
 have p4 := hP1.out.cell 4
 simp at p0 p1 p2 p3 p4
 clear hH hG hE0
 go_wp2_with fail
 refine hF0.mono ?_
 clear hF0 p0 p1 p2 p3 p4
 rintro e w2 ⟨⟨x2, N2, c2, rfl⟩, hb2⟩
 have hB2 := Lib.hid (hB1.out.trans (hb2.mono (by omega : q ≤ w1.heap.size)))
 have hP2 := Lib.hid (hP1.out.keep hb2 (by omega))
 have hs2 : q < w2.heap.size := hP2.out.inside
 clear hb2
 cases hG0 : (G == 0)
 · have hG1 : (G != 0) = true := by simpa using hG0
   have he := Lib.hid (allR_no (v := v) (l := l) (t := t) (r := r) (fun h => by have := h.2; rw [hG'.out] at this; rw [this] at hG0; simp at hG0))
   go_wp2
   refine bodyPost_ret (v := .tuple #[.slice none 0 0, .int .i64 0]) (by simp [results, Tryz.results95, go_sem]) rfl ?_
   exact ⟨⟨_, rfl, by rw [he.out]; exact RowB.nil _ _ _⟩, fin'.out _ hB2.out⟩
 have hG1 : (G != 0) = false := by simpa using hG0
 obtain rfl : G = 0 := by simpa using hG0
 have hz := rightE_zero hE'.out hG'.out
 have hN : Nl ≤ 14 := by have := hNl.out; omega
 have hrI : Hid (I64 r) := Lib.hid (i64_of (by rw [hNt.out]; unfold maxLen; omega) (by have := hz.1; simp only [Bool.and_eq_true] at this; exact this.1))
 have hall := Lib.hid (allR_yes hE'.out hG'.out)
 have hlen : Hid (∀ pre rest : List (Int × Int), pairsL Nl = pre ++ rest → (waysP v l t r pre).length ≤ 153) := Lib.hid (fun pre rest h => by
  have := pairsL_len Nl
  rw [h, List.length_append] at this
  have := waysP_len v l t r pre
  omega)
 obtain ⟨xs, hxs⟩ : ∃ xs, pairsL Nl = xs := ⟨_, rfl⟩
 have hxs' : Hid (xs = fromL Nl 0) := Lib.hid (by rw [← hxs, pairsL_in (by omega)])
 have hxl : Hid (pairsL l.length = xs) := Lib.hid (by rw [hNl.out]; exact hxs)
 rw [hxs] at hlen
 clear hxs hz hG0
 go_wp2
 go_loopw [14, 15] (fun u i wr => ∃ (pre : List (Int × Int)) (k : Nat), i = .int .i64 k ∧ k ≤ Nl + 1 ∧ Hid (xs = pre ++ fromL Nl k) ∧ wr.ownsRow (q + 1) 127 3 u (waysP v l t r pre).length (flatW (waysP v l t r pre)) ∧ Below q w wr ∧ At wr q 64 #[.int .i64 v.hx, .int .i64 v.hy, .int .i64 v.cp, .int .i64 v.st, .int .i64 v.en])
  (fun _ i _ => Nl + 1 - (intOf i).toNat)
 case atStart => exact ⟨[], 0, rfl, Nat.zero_le _, hxs', by simpa [flatW, waysP] using World.ownsRow_nil _ _ _ _, hB2.out, hP2.out⟩
 case round =>
  obtain ⟨pre, k, rfl, hk, hx, hown, hbw, hPw⟩ := hrel
  by_cases hlt : k ≤ Nl
  · have hx2 : Hid (xs = pre ++ (rowL Nl k k ++ fromL Nl (k + 1))) := Lib.hid (by rw [hx.out, fromL_cons hlt])
    clear hx
    obtain ⟨wo, hwo⟩ : ∃ wo, wo = wr := ⟨_, rfl⟩
    subst hwo
    have hkNi : (k : Int) ≤ (Nl : Int) := by omega
    go_wp2
    go_loopw [14, 16] (fun u j wr => ∃ (pre : List (Int × Int)) (m : Nat), j = .int .i64 m ∧ k ≤ m ∧ m ≤ Nl + 1 ∧ Hid (xs = pre ++ (rowL Nl k m ++ fromL Nl (k + 1))) ∧ wr.ownsRow (q + 1) 127 3 u (waysP v l t r pre).length (flatW (waysP v l t r pre)) ∧ Below q w wr ∧ At wr q 64 #[.int .i64 v.hx, .int .i64 v.hy, .int .i64 v.cp, .int .i64 v.st, .int .i64 v.en])
     (fun _ j _ => Nl + 1 - (intOf j).toNat)
    case atStart => exact ⟨pre, k, rfl, Nat.le_refl _, by omega, hx2, hown, hbw, hPw⟩
    case round =>
     clear hown hx2 hbw hPw pre
     obtain ⟨pre, m, rfl, hkm, hm, hx, hown, hbw, hPw⟩ := hrel
     by_cases hlm : m ≤ Nl
     · have hx2 : Hid (xs = (pre ++ [((k : Int), (m : Int))]) ++ (rowL Nl k (m + 1) ++ fromL Nl (k + 1))) := Lib.hid (by rw [hx.out, rowL_cons hlm, List.append_assoc]; rfl)
       have hpl := hlen.out _ _ hx.out
       have hlmi : (m : Int) ≤ (Nl : Int) := by omega
       have hmN : Hid (m + 1 ≤ Nl + 1) := Lib.hid (by omega)
       obtain ⟨hmay, hwv, hwl, hri⟩ := pair_of hE'.out hG'.out hkm (by rw [hNl.out]; exact hlm)
       have hW := refWith_any _ l r k m hl'.out wr ((hL'.out.keep hbw (Nat.le_refl _)).more (by have := hbw.size; have := hq'.out; omega))
       rw [hmay, hwv] at hW
       have hmn : Hid (Nums (moreL l r k m)) := Lib.hid (moreL_nums hnum'.out hrI.out)
       have hsn := Lib.hid (waysP_snoc v l t r pre ((k : Int), (m : Int)))
       have hrv := Lib.hid (fun h : riseE v l t r k m = 0 => riseV_ok h)
       obtain ⟨M, hM⟩ : ∃ M, moreL l r k m = M := ⟨_, rfl⟩
       rw [hM] at hW hwl hri hmn hrv
       have hri' := Lib.hid hri
       have hwl' := Lib.hid hwl
       have hown' := Lib.hid hown
       have hbw' := Lib.hid hbw
       have hPw' := Lib.hid hPw
       have hsw : q < wr.heap.size := hPw.inside
       clear hx hbw hown hPw hM hmay hwv hri hwl
       go_wp2_with fail
       refine hW.mono ?_
       clear hW
       rintro e w3 ⟨⟨u3, rfl, hu3⟩, hb3⟩
       have hB3 := Lib.hid (hbw'.out.trans (hb3.mono (by omega : q ≤ wr.heap.size)))
       have hP3 := Lib.hid (hPw'.out.keep hb3 hsw)
       have hO3 := Lib.hid (owns_below hown'.out hb3)
       have hs3 : q < w3.heap.size := hP3.out.inside
       have hu3' := Lib.hid hu3
       have hFi := refFits_any v u3 _ M t (by have := hwl'.out; omega) w3 hu3 ((hT'.out.keep hB3.out (Nat.le_refl _)).more (by omega))
       obtain ⟨xu, Nu, cu, rfl, -⟩ := hu3.opened
       obtain ⟨F, hF⟩ : ∃ F, fitE v M t = F := ⟨_, rfl⟩
       obtain ⟨Fa, hFa⟩ : ∃ F, fitAt v M t = F := ⟨_, rfl⟩
       rw [hF, hFa] at hFi
       have hF' := Lib.hid hF
       have p0 := hP3.out.cell 0
       have p1 := hP3.out.cell 1
       have p2 := hP3.out.cell 2
       have p3 := hP3.out.cell 3
       have p4 := hP3.out.cell 4
       simp at p0 p1 p2 p3 p4
       clear hb3 hu3 hF hFa hbw' hPw' hown'
       go_wp2_with fail
       refine hFi.mono ?_
       clear hFi p0 p1 p2 p3 p4
       rintro e w4 ⟨rfl, hb4⟩
       have hB4 := Lib.hid (hB3.out.trans (hb4.mono (by omega : q ≤ w3.heap.size)))
       have hP4 := Lib.hid (hP3.out.keep hb4 hs3)
       have hO4 := Lib.hid (owns_below hO3.out hb4)
       have hs4 : q < w4.heap.size := hP4.out.inside
       have hFr := refFrom0 v _ _ M t (by have := hwl'.out; omega) hmn.out w4 (hu3'.out.on hb4) ((hT'.out.keep hB4.out (Nat.le_refl _)).more (by omega))
       obtain ⟨J, hJ⟩ : ∃ J, homeT v M t = J := ⟨_, rfl⟩
       obtain ⟨D, hD⟩ : ∃ D, errT v M t = D := ⟨_, rfl⟩
       rw [hJ, hD] at hFr
       have hJb : 0 ≤ J ∧ J ≤ 3000000 := by rw [← hJ]; exact homeT_bd v M t
       have hJ' := Lib.hid hJ
       have hD' := Lib.hid hD
       have p0 := hP4.out.cell 0
       have p1 := hP4.out.cell 1
       have p2 := hP4.out.cell 2
       have p3 := hP4.out.cell 3
       have p4 := hP4.out.cell 4
       simp at p0 p1 p2 p3 p4
       clear hb4 hJ hD hB3 hP3 hO3
       go_wp2_with fail
       refine hFr.mono ?_
       clear hFr p0 p1 p2 p3 p4
       rintro e w5 ⟨⟨x5, N5, c5, rfl⟩, hb5⟩
       have hB5 := Lib.hid (hB4.out.trans (hb5.mono (by omega : q ≤ w4.heap.size)))
       have hP5 := Lib.hid (hP4.out.keep hb5 hs4)
       have hO5 := Lib.hid (owns_below hO4.out hb5)
       have hs5 : q < w5.heap.size := hP5.out.inside
       clear hb5 hB4 hP4 hO4
       have hskip : Hid (¬ (F = 0 ∧ D = 0) → waysP v l t r (pre ++ [((k : Int), (m : Int))]) = waysP v l t r pre) := Lib.hid (fun h => by
        rw [hsn.out, wayI_no (by
         show riseE v l t r k m ≠ 0
         rw [hri'.out, hF'.out, hD'.out]
         split
         · assumption
         · exact fun hd => h ⟨by omega, hd⟩)]
        exact List.append_nil _)
       cases hF0 : (F == 0)
       · have he := Lib.hid (hskip.out (fun h => by rw [h.1] at hF0; simp at hF0))
         go_wp2
         go_roundw
         case rel => exact ⟨pre ++ [((k : Int), (m : Int))], m + 1, by go_num, by omega, hmN.out, hx2, by rw [he.out]; exact hO5.out, hB5.out, hP5.out⟩
         case measure => simp [intOf]; omega
       cases hD0 : (D == 0)
       · have he := Lib.hid (hskip.out (fun h => by rw [h.2] at hD0; simp at hD0))
         go_wp2
         go_roundw
         case rel => exact ⟨pre ++ [((k : Int), (m : Int))], m + 1, by go_num, by omega, hmN.out, hx2, by rw [he.out]; exact hO5.out, hB5.out, hP5.out⟩
         case measure => simp [intOf]; omega
       have hrz : Hid (riseE v l t r k m = 0) := Lib.hid (by
        rw [hri'.out, hF'.out, hD'.out, if_neg (by simpa using hF0)]
        simpa using hD0)
       have hyes : Hid (waysP v l t r (pre ++ [((k : Int), (m : Int))]) = waysP v l t r pre ++ [⟨k, m, J - H⟩]) := Lib.hid (by
        rw [hsn.out, wayI_yes (show riseE v l t r k m = 0 from hrz.out)]
        show _ ++ [(⟨k, m, riseV v l t r k m⟩ : Wy)] = _
        rw [hrv.out hrz.out, hJ'.out, hH'.out])
       obtain ⟨ys, hys⟩ : ∃ ys, waysP v l t r pre = ys := ⟨_, rfl⟩
       rw [hys] at hO5 hyes hpl
       have hfl : Hid (flatW (ys ++ [⟨k, m, J - H⟩]) = flatW ys ++ [.int .i64 k, .int .i64 m, .int .i64 (J - H)]) := Lib.hid (flatW_snoc _ _)
       have hown := hO5.out
       have hrow := Lib.hid (owns_row hown)
       have hs5' : q + 1 ≤ w5.heap.size := hs5
       obtain rfl : F = 0 := by simpa using hF0
       obtain rfl : D = 0 := by simpa using hD0
       clear hO5 hys hskip hF0 hD0 hrz
       go_wp2_with (at_builtin; refine wpList_append_own _ rfl _ _ 161 rfl (q + 1) 127 i0 (.agg #[.int .i64 0, .int .i64 0, .int .i64 0]) 3 24 Tryz.underlying161 hi hz0 hz1 hz2 rfl (by decide) _ _ _ rfl (hown.alloc _) ⟨w5.heap.size, 0, none⟩ 1 1 [.int .i64 k, .int .i64 m, .int .i64 (J - H)] rfl rfl (World.news_of_block (cs := #[.int .i64 k, .int .i64 m, .int .i64 (J - H)]) (t := 127) (fr := (0, 0)) (heap_alloc_new w5 _)) (by simp [Value.oneCell']) (by unfold maxLen; omega) (by omega) (by simp; omega) ?_; intro v7 w7 hown7 hgrow7 hnil7)
       have hb7 : Below q w w7 := (hB5.out.alloc (by omega) _).grown hgrow7 (by simp; omega) (fun r e => by have := hrow.out r e; omega)
       have hP7 : At w7 q 64 #[.int .i64 v.hx, .int .i64 v.hy, .int .i64 v.cp, .int .i64 v.st, .int .i64 v.en] := At.under (m := q + 1) (hP5.out.alloc _) hgrow7 (fun r e => by have := hrow.out r e; omega) (by omega)
       go_roundw
       case rel => exact ⟨pre ++ [((k : Int), (m : Int))], m + 1, by go_num, by omega, hmN.out, hx2, by rw [hyes.out, hfl.out, List.length_append]; exact hown7, hb7, hP7⟩
       case measure => simp [intOf]; omega
     · obtain rfl : m = Nl + 1 := by omega
       have hx2 : Hid (xs = pre ++ fromL Nl (k + 1)) := Lib.hid (by rw [hx.out, rowL_nil (Nat.lt_succ_self _)]; rfl)
       clear hx
       go_wp2
       go_roundw
       case rel => exact ⟨pre, k + 1, by go_num, by omega, hx2, hown, hbw, hPw⟩
       case measure => simp [intOf]; omega
  · obtain rfl : k = Nl + 1 := by omega
    have hx2 : Hid (xs = pre) := Lib.hid (by rw [hx.out, fromL_nil (Nat.lt_succ_self _), List.append_nil])
    have hr := Lib.hid (Wys.of_owns (B := wr.heap.size) hown rfl (Nat.le_refl _))
    obtain ⟨xo, co, rfl, -⟩ := owns_slice hown
    clear hx hown
    go_wp2
    refine bodyPost_ret (v := .tuple #[.slice xo (waysP v l t r pre).length co, .int .i64 0]) (by simp [results, Tryz.results95, go_sem]) rfl ?_
    exact ⟨⟨_, rfl, by rw [hall.out, hxl.out, hx2.out]; exact hr.out⟩, fin'.out _ hbw⟩
end Go.Proofs.YtlbghdiebjldjaaGreatDoor.Cheap

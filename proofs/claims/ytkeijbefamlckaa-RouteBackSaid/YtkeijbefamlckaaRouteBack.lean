/-
  RouteBack returns true for all bytes and numbers: a drawn route with a request more is a route, stands where it was put, and without it is what it was; without a request of its own it is a route, too, which by With is what it was. Conditions: none but that the arguments are such values.
-/
import Derived.Test.YtkeijbefamlckaaRouteWorks
import Derived.Test.YtkeijbefamlckaaRouteMade
import Derived.Test.YtkeijbefamlckaaRouteOpen
namespace Go.Proofs.Ytkeijbefamlckaa.routeBack
open Go.ChangeShapes Go.WideShapes Go.ChangeAt Go.RowKit Go.Proofs.Ytkeijbefamlckaa.Mem Go.Proofs.Ytkeijbefamlckaa.Route
set_option linter.unusedVariables false

theorem nums_with {l : List (Int × Int)} (h : Nums l) {r : Int} (hr : I64 r) (i j : Nat) : Nums (withL l r i j) := by
  intro s hs
  unfold withL at hs
  simp only [List.mem_append, List.mem_cons] at hs
  rcases hs with hs | rfl | hs | rfl | hs
  · exact h s (List.mem_of_mem_take hs)
  · exact ⟨hr, by simp [I64]⟩
  · exact h s (List.mem_of_mem_take (List.mem_of_mem_drop hs))
  · exact ⟨hr, by simp [I64]⟩
  · exact h s (List.mem_of_mem_drop hs)
theorem reqs_len {l : List (Int × Int)} (h : isR l = true) (hl : l.length ≤ 16) : (reqsL l).length * 2 = l.length := by
  unfold reqsL
  rw [h, show decide (l.length ≤ 16) = true by simpa using hl]
  exact picks_half h

set_option maxRecDepth 100000 in
set_option maxHeartbeats 8000000 in
theorem walk (v : Value) (bs : List Int) (hb : ∀ x ∈ bs, 0 ≤ x ∧ x < 256) (a0 a1 wh : Int) (h0 : 0 ≤ a0 ∧ a0 ≤ 255) (h1 : 0 ≤ a1 ∧ a1 ≤ 255) (hw : 0 ≤ wh ∧ wh ≤ 255) (w : World) (h : RowB w.heap.size w v 1 (bs.map byV)) :
    Calls Try.prog 5 #[v, .agg #[.int .u8 a0, .int .u8 a1], .int .u8 wh] w fun e w' => e = .returned (.bool true) ∧ Below w.heap.size w w' := by
  have hh := Lib.hid h
  obtain ⟨x, N, cap, rfl, hN', hc1, hc2⟩ := bytes_open h
  have hb' := Lib.hid hb
  have hA0 := At.new w 48 #[.int .u8 a0, .int .u8 a1]
  have hB0 : Below w.heap.size w (w.alloc (.cells #[.int .u8 a0, .int .u8 a1] 48)) := bAlloc (Below.refl _ _) _
  clear h hb
  go_enter Try.func5, Try.ntmps5
  go_wp2_with fail
  generalize (w.alloc (.cells #[.int .u8 a0, .int .u8 a1] 48)) = w1 at *
  refine Calls.mono (works_any _) ?_
  rintro e w2 ⟨rfl, hb2⟩
  have hB2 := bStep hB0 hb2
  have hA2 := hA0.keep hb2 hA0.inside
  clear hb2 hA0 hB0
  go_wp2_with fail
  refine Calls.mono (Made_any _ bs hb'.out _ ((hh.out.keep hB2 (Nat.le_refl _)).more hB2.size)) ?_
  rintro e w3 ⟨⟨v3, rfl, l, k, hR, hD, hk6, hkN⟩, hb3⟩
  have hB3 := bStep hB2 hb3
  have hA3 := hA2.keep hb3 hA2.inside
  obtain ⟨y, L, cl, rfl, hL, hy0, hc3, hc4⟩ := hR.opened
  obtain rfl : L = 2 * k := by rw [← hL.out, hD.2.1]
  have hR' := Lib.hid hR
  have hD' := Lib.hid hD
  have hnl := Lib.hid (hD.nums hk6)
  clear hb3 hA2 hB2 hR hD
  have c0 := hA3.cell 0
  have c1 := hA3.cell 1
  simp at c0 c1
  have hX1 : 0 ≤ a0 % (2 * (k : Int) + 1) := Int.emod_nonneg _ (by omega)
  have hX2 : a0 % (2 * (k : Int) + 1) < 2 * (k : Int) + 1 := Int.emod_lt_of_pos _ (by omega)
  have hY1 : 0 ≤ a1 % (2 * (k : Int) + 1) := Int.emod_nonneg _ (by omega)
  have hY2 : a1 % (2 * (k : Int) + 1) < 2 * (k : Int) + 1 := Int.emod_lt_of_pos _ (by omega)
  go_upto_region 5 with fail
  go_quiet (fail)
  generalize a0 % (2 * (k : Int) + 1) = X at *
  generalize a1 % (2 * (k : Int) + 1) = Y at *
  have hB4 := below_drewN hB3 nq
  have hR4 : Hid (Row (w3.drewN nq).heap.size (w3.drewN nq) (.slice y (2 * k) cl) l) := Lib.hid (hR'.out.on (below_drewN (Below.refl _ _) nq))
  generalize w3.drewN nq = w4 at *
  obtain ⟨I, hI1, hI2, hI3⟩ : ∃ I, min X Y = I ∧ 0 ≤ I ∧ I ≤ 2 * k := ⟨_, rfl, by omega, by omega⟩
  obtain ⟨J, hJ1, hJ2, hJ3⟩ : ∃ J, max X Y = J ∧ I ≤ J ∧ J ≤ 2 * k := ⟨_, rfl, by omega, by omega⟩
  have hm := Lib.hid (hD'.out.may (by omega) (r := 50) (i := I) (j := J) (by omega) hI2 hJ2 hJ3)
  clear c0 c1 hA3 hB3 hR'
  go_wp2_with fail
  refine Calls.mono (With_any _ l 50 I J (by rw [hL.out]; omega) _ hR4.out) ?_
  rintro e w5 ⟨⟨v5, rfl, hv5, _⟩, hb5⟩
  rw [hm.out]
  have hB5 := bStep hB4 hb5
  have hR5 := Lib.hid (hR4.out.on hb5)
  have hWe := with_yes hm.out
  have hWr := Lib.hid (isR_with hm.out hD'.out.1)
  have hWw := Lib.hid (wo_with hm.out)
  have hWi := Lib.hid (ix_with hm.out)
  have hWl := Lib.hid (withL_length (l := l) (i := I.toNat) (j := J.toNat) (by omega) (by rw [hL.out]; omega) 50)
  have hWn := Lib.hid (nums_with hnl.out (r := 50) (by simp [I64]) I.toNat J.toNat)
  rw [hWe] at hv5
  clear hWe hb5 hB4 hR4 hI1 hJ1
  generalize hWd : withL l 50 I.toNat J.toNat = W at *
  clear hWd
  have hv5' := Lib.hid hv5
  obtain ⟨z, M, cz, rfl, hM, hz0, hc5, hc6⟩ := hv5.opened
  obtain rfl : M = 2 * k + 2 := by rw [← hM.out, hWl.out, hL.out]
  clear hv5
  have hck := Lib.hid (chk_good (l := W) (by rw [hM.out]; omega) hWr.out)
  go_wp2_with fail
  refine Calls.mono (Check_any _ W (by rw [hM.out]; omega) hWn.out _ hv5'.out) ?_
  rintro e w6 ⟨rfl, hb6⟩
  rw [hck.out]
  have hB6 := bStep hB5 hb6
  have hR6 := Lib.hid (hR5.out.on hb6)
  have hv6 := Lib.hid (hv5'.out.on hb6)
  clear hb6 hB5 hR5 hv5'
  go_wp2_with fail
  refine Calls.mono (Without_any _ W 50 (by rw [hM.out]; omega) _ hv6.out) ?_
  rintro e w7 ⟨⟨v7, rfl, hv7⟩, hb7⟩
  rw [hWw.out] at hv7
  have hB7 := bStep hB6 hb7
  have hR7 := Lib.hid (hR6.out.on hb7)
  have hv7' := Lib.hid (hv6.out.on hb7)
  have hv7'' := Lib.hid hv7
  obtain ⟨z7, M7, cz7, rfl, hM7, _, _, _⟩ := hv7.opened
  clear hb7 hB6 hR6 hv6 hv7
  go_wp2_with fail
  refine Calls.mono (Same_any _ _ l l (by rw [hL.out]; omega) _ hv7''.out hR7.out) ?_
  rintro e w8 ⟨rfl, hb8⟩
  rw [show decide (l = l) = true by simp]
  have hB8 := bStep hB7 hb8
  have hR8 := Lib.hid (hR7.out.on hb8)
  have hv8 := Lib.hid (hv7'.out.on hb8)
  clear hb8 hB7 hR7 hv7' hv7''
  go_wp2_with fail
  refine Calls.mono (At_any _ W 50 (by rw [hM.out]; omega) _ hv8.out) ?_
  rintro e w9 ⟨rfl, hb9⟩
  rw [hWi.out.1, hWi.out.2]
  have hB9 := bStep hB8 hb9
  have hR9 := Lib.hid (hR8.out.on hb9)
  have hv9 := Lib.hid (hv8.out.on hb9)
  clear hb9 hB8 hR8 hv8
  go_wp2_with fail
  refine Calls.mono (Requests_any _ W (by rw [hM.out]; omega) hWn.out _ hv9.out) ?_
  rintro e w10 ⟨⟨v10, rfl, hv10⟩, hb10⟩
  have hB10 := bStep hB9 hb10
  have hR10 := Lib.hid (hR9.out.on hb10)
  have hrl := reqs_len hWr.out (by rw [hM.out]; omega)
  rw [hM.out] at hrl
  obtain ⟨zz, Q, czz, rfl, hQ, _, _⟩ := hv10.opened
  obtain rfl : Q = k + 1 := by rw [hQ.out] at hrl; omega
  clear hb10 hB9 hR9 hv9 hv10 hrl
  have hq : (2 * (k : Int)).tdiv 2 = k := by rw [Int.tdiv_eq_ediv_of_nonneg (by omega)]; omega
  by_cases hk0 : k = 0
  · subst hk0
    go_wp2
    go_ret
    exact ⟨rfl, hB10⟩
  · have hk0' : ((2 * (k : Int)) == 0) = false := by simp; omega
    have hZ1 : 0 ≤ wh % (2 * (k : Int)) := Int.emod_nonneg _ (by omega)
    have hZ2 : wh % (2 * (k : Int)) < 2 * (k : Int) := Int.emod_lt_of_pos _ (by omega)
    obtain ⟨z, hz⟩ : ∃ z : Nat, wh % (2 * (k : Int)) = z := ⟨(wh % (2 * (k : Int))).toNat, by omega⟩
    have hzl : z < 2 * k := by omega
    obtain ⟨⟨s1, s2⟩, hs, _⟩ := drop_get (l := l) (k := z) (by rw [hL.out]; exact hzl)
    obtain ⟨g, o, rfl, hg, e1, e2⟩ := Row.stop hR10.out hs
    have hbk := Lib.hid (back hD'.out.1 (List.mem_of_getElem? hs) (by rw [hL.out]; omega))
    clear hs
    go_wp2_with fail
    have hlw := Lib.hid (show (woL s1 l).length + 2 = l.length from hbk.out.2.1)
    refine Calls.mono (Without_any _ l s1 (by rw [hL.out]; omega) _ hR10.out) ?_
    rintro e w11 ⟨⟨v11, rfl, hv11⟩, hb11⟩
    have hB11 := bStep hB10 hb11
    have hR11 := Lib.hid (hR10.out.on hb11)
    have hv11' := Lib.hid hv11
    obtain ⟨z11, P, c11, rfl, hP, _, _, _⟩ := hv11.opened
    obtain rfl : P = 2 * k - 2 := by have := hlw.out; rw [hP.out, hL.out] at this; omega
    clear hb11 hB10 hR10 hv11 e1 e2
    go_wp2_with fail
    refine Calls.mono (At_any _ l s1 (by rw [hL.out]; omega) _ hR11.out) ?_
    rintro e w12 ⟨rfl, hb12⟩
    have hB12 := bStep hB11 hb12
    have hR12 := Lib.hid (hR11.out.on hb12)
    have hv12 := Lib.hid (hv11'.out.on hb12)
    have hCb := ixF_bd (s := (s1, 1)) (l := l) (k := 0)
    rw [hL.out] at hCb
    obtain ⟨A, hA⟩ : ∃ A, ixV (s1, 0) l = A := ⟨_, rfl⟩
    obtain ⟨C, hC⟩ : ∃ C, ixV (s1, 1) l = C := ⟨_, rfl⟩
    rw [show ixF (s1, 1) 0 l = C from hC] at hCb
    have hbk2 := hbk.out
    simp only [hA, hC] at hbk2
    have hbk' := Lib.hid hbk2
    have hwc : IntKind.i64.wrap (C - 1) = C - 1 := IntWalk.i64_in _ (by omega)
    rw [hA, hC]
    clear hb12 hB11 hR11 hv11' hbk2 hbk hA hC
    go_wp2_with fail
    refine Calls.mono (With_any _ (woL s1 l) s1 A (C - 1) (by rw [hP.out]; omega) _ hv12.out) ?_
    rintro e w13 ⟨⟨v13, rfl, hv13, _⟩, hb13⟩
    rw [hbk'.out.2.2.1]
    rw [hbk'.out.2.2.2] at hv13
    have hB13 := bStep hB12 hb13
    have hR13 := Lib.hid (hR12.out.on hb13)
    have hv13' := Lib.hid (hv12.out.on hb13)
    have hv13'' := Lib.hid hv13
    obtain ⟨z13, P2, c13, rfl, hP2, _, _, _⟩ := hv13.opened
    have hckl := Lib.hid (chk_good (l := woL s1 l) (by rw [hP.out]; omega) hbk'.out.1)
    clear hb13 hB12 hR12 hv12 hv13
    go_wp2_with fail
    refine Calls.mono (Check_any _ (woL s1 l) (by rw [hP.out]; omega) (nums_wo hnl.out) _ hv13'.out) ?_
    rintro e w14 ⟨rfl, hb14⟩
    rw [hckl.out]
    have hB14 := bStep hB13 hb14
    have hR14 := Lib.hid (hR13.out.on hb14)
    have hv14 := Lib.hid (hv13''.out.on hb14)
    clear hb14 hB13 hR13 hv13' hv13''
    go_wp2_with fail
    refine Calls.mono (Same_any _ _ l l (by rw [hL.out]; omega) _ hv14.out hR14.out) ?_
    rintro e w15 ⟨rfl, hb15⟩
    rw [show decide (l = l) = true by simp]
    have hB15 := bStep hB14 hb15
    clear hb15 hB14
    go_wp2
    go_ret
    exact ⟨rfl, hB15⟩

set_option maxRecDepth 100000 in
theorem lifted (os : Os) (started : os.Started) (H : Type) (enc : TypeId × Value → H) :
    ReturnsInHanded {} Try.checked os 5 .any (Rows.routeBackSpec.pre6 enc Try.prog Try.f5 Rows.routeBackRow.domain false) (Rows.routeBackSpec.post enc Try.prog Try.f5 false true false false) := by
  refine returnsInHanded_of_change (C := Try.checked) own started (by kernel_rfl) Try.func5
    (ChangeSpec.witness6 (enc := enc) (C := Try.checked) false ⟨#[], #[.slice none 0 0, .agg #[.int .u8 0, .int .u8 0], .int .u8 0], []⟩ 8 (by kernel_rfl) (by kernel_rfl) (by kernel_rfl) (by kernel_rfl)) ?_
  intro W base args ds gs before hval0 hW hcnd _
  have hval : ∀ (j : Nat) t v, Try.f5.params[j]? = some t → args[j]? = some v → Value.okWide Try.prog W .any base t v := hval0
  have hW' := hW
  obtain ⟨p, q, hA0, hV, rfl, hfz, hnd⟩ := hW
  have hA : DataW.TrodAll enc Try.prog W 0 (fun _ => true) true Try.f5.params.toList args.toList ds p := hA0
  rw [Try.params5] at hA hval
  obtain ⟨v0, vs0, d0, ds0, p0, q0, hargs, rfl, rfl, h0, r0⟩ := trodAll_cons hA
  obtain ⟨v1, vs1, d1, ds1, p1, q1, rfl, rfl, rfl, h1, r1⟩ := trodAll_cons r0
  obtain ⟨v2, vs2, d2, ds2, p2, q2, rfl, rfl, rfl, h2, r2⟩ := trodAll_cons r1
  obtain ⟨rfl, rfl, rfl⟩ := trodAll_nil r2
  obtain rfl : args = #[v0, v1, v2] := by cases args; simp_all
  obtain ⟨rfl, rfl⟩ := trodVars_none hV
  obtain ⟨bs, hrow, hbs⟩ := openBytes (hval 0 23 v0 rfl rfl) h0
  obtain ⟨xs, hl, hv, hxs⟩ := Close.open_numbers Try.underlying48 Try.underlying5 (by kernel_rfl) (by kernel_rfl) (hval 1 48 v1 rfl rfl) h1
  obtain ⟨m0, m1, rfl⟩ : ∃ a b, xs = [a, b] := by
    match xs, hl with
    | [a, b], _ => exact ⟨a, b, rfl⟩
  obtain rfl : v1 = .agg #[.int .u8 m0, .int .u8 m1] := by simpa using hv
  have wm0 := u8_ends (hxs m0 (by simp))
  have wm1 := u8_ends (hxs m1 (by simp))
  obtain ⟨a2, rfl, rfl, rfl, w2⟩ := open_int Try.underlying5 (hval 2 5 v2 rfl rfl) h2
  exact (walk v0 bs hbs m0 m1 a2 wm0 wm1 (u8_ends w2) W hrow).mono fun e W' ⟨he, hb⟩ => ⟨_, he, Close.law_post laidOut (by kernel_rfl) rfl (by kernel_rfl) Try.underlying4 hW' rfl hb⟩

theorem over : Rows.routeBackRow.holds Try.pinned (OpenSpec.ofChange Rows.routeBackSpec) :=
  OpenClaim.holds_of_wide 5 Try.f5 rfl rfl rfl rfl rfl rfl rfl ⟨rfl, rfl, rfl, rfl, rfl⟩ rfl rfl rfl rfl rfl (by kernel_rfl) Try.func5 (by kernel_rfl)
    (of_decide_eq_true (by kernel_rfl)) (by unfold Func.isWrapper; first | (rw [if_pos (by decide +kernel)]; kernel_rfl) | (rw [if_neg (by decide +kernel)]; exact ⟨rfl, rfl⟩))
    (fun os started H enc _ => lifted os started H enc)

theorem proved : Rows.RouteBackSaid := over
#print axioms proved

end Go.Proofs.Ytkeijbefamlckaa.routeBack

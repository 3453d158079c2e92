/-
  Contracts of package order's 'Alone', and of what answers the same by definition.
-/
import Derived.Test.YtcdgfjfomiokmaaOrderServe
import Derived.Deep.CutRange
namespace Go.Proofs.Ytcdgfjfomiokmaa.Order
open Go.RowKit Go.Sort Go.Proofs.Ytcdgfjfomiokmaa.Mem Go.Proofs.Ytcdgfjfomiokmaa.Place Go.Proofs.Ytcdgfjfomiokmaa.Window
set_option linter.unusedVariables false

theorem wait_yes {e l t : Int} (h : okB e l = true) (hm : max t e ≤ l) : waitB e l t = true ∧ waitV e l t = max t e := by
  have hb : waitB e l t = true := by rw [okB_iff] at h; rw [waitB_iff]; exact ⟨h, by omega⟩
  exact ⟨hb, by unfold waitV; rw [hb, orNil_t]⟩
theorem wait_no {e l t : Int} (h : okB e l = true) (hm : ¬ max t e ≤ l) : waitB e l t = false := by
  rw [okB_iff] at h
  rw [← Bool.not_eq_true, waitB_iff]
  omega

theorem Alone1_yes (x y e l lv px py D M : Int) (fx fy tx ty pe pl de dl ld sv : Int) (a b c B : Nat) (w : World) (hok : okB e l = true) (hlv : 0 ≤ lv ∧ lv ≤ 4000000) (hsv : 0 ≤ sv ∧ sv ≤ 1000)
    (hD : distV (px, py) (x, y) = D) (hM : max (lv + D) e = M) (hMl : M ≤ l)
    (hA : At w a 3 #[.int .i64 lv]) (hP : At w b 23 #[.int .i64 px, .int .i64 py]) (hR : At w c 27 #[.int .i64 fx, .int .i64 fy, .int .i64 tx, .int .i64 ty, .int .i64 pe, .int .i64 pl, .int .i64 de, .int .i64 dl, .int .i64 ld, .int .i64 sv]) (hab : a ≠ b) (hBa : B ≤ a) (hBb : B ≤ b) :
    Calls Try.prog 31 #[.agg #[.int .i64 x, .int .i64 y], .agg #[.int .i64 e, .int .i64 l], .pointer (some ⟨a, 0, none⟩), .pointer (some ⟨b, 0, none⟩), .pointer (some ⟨c, 0, none⟩)] w
      fun r w' => r = .returned (.bool true) ∧ At w' a 3 #[.int .i64 (M + sv)] ∧ At w' b 23 #[.int .i64 x, .int .i64 y] ∧ Below B w w' := by
  refine (Alone1_any x y e l lv px py fx fy tx ty pe pl de dl ld sv a b c B w hok hlv hsv hA hP hR hab hBa hBb).mono ?_
  rintro r w' ⟨rfl, h1, h2, h3⟩
  rw [hD] at h1 ⊢
  obtain ⟨hb, hv⟩ := wait_yes (e := e) (l := l) (t := lv + D) hok (by omega)
  rw [hv, hM] at h1
  rw [hb]
  exact ⟨rfl, h1, h2, h3⟩
theorem Alone1_no (x y e l lv px py D M : Int) (fx fy tx ty pe pl de dl ld sv : Int) (a b c B : Nat) (w : World) (hok : okB e l = true) (hlv : 0 ≤ lv ∧ lv ≤ 4000000) (hsv : 0 ≤ sv ∧ sv ≤ 1000)
    (hD : distV (px, py) (x, y) = D) (hM : max (lv + D) e = M) (hMl : ¬ M ≤ l)
    (hA : At w a 3 #[.int .i64 lv]) (hP : At w b 23 #[.int .i64 px, .int .i64 py]) (hR : At w c 27 #[.int .i64 fx, .int .i64 fy, .int .i64 tx, .int .i64 ty, .int .i64 pe, .int .i64 pl, .int .i64 de, .int .i64 dl, .int .i64 ld, .int .i64 sv]) (hab : a ≠ b) (hBa : B ≤ a) (hBb : B ≤ b) :
    Calls Try.prog 31 #[.agg #[.int .i64 x, .int .i64 y], .agg #[.int .i64 e, .int .i64 l], .pointer (some ⟨a, 0, none⟩), .pointer (some ⟨b, 0, none⟩), .pointer (some ⟨c, 0, none⟩)] w
      fun r w' => r = .returned (.bool false) ∧ Below B w w' := by
  refine (Alone1_any x y e l lv px py fx fy tx ty pe pl de dl ld sv a b c B w hok hlv hsv hA hP hR hab hBa hBb).mono ?_
  rintro r w' ⟨rfl, h1, h2, h3⟩
  rw [hD]
  rw [wait_no (e := e) (l := l) (t := lv + D) hok (by omega)]
  exact ⟨rfl, h3⟩

theorem ret_ib2 {k : IntKind} {a b : Int} {c d : Bool} (h : c = d ∧ a = b) : Ending.returned (.tuple #[.int k b, .bool d]) = .returned (.tuple #[.int k a, .bool c]) := by rw [h.1, h.2]

set_option maxHeartbeats 8000000 in
theorem Alone_any (fx fy tx ty pe pl de dl ld sv hx hy cp st en : Int) (w : World) :
    Calls Try.prog 15 #[.agg #[.int .i64 fx, .int .i64 fy, .int .i64 tx, .int .i64 ty, .int .i64 pe, .int .i64 pl, .int .i64 de, .int .i64 dl, .int .i64 ld, .int .i64 sv], .agg #[.int .i64 hx, .int .i64 hy, .int .i64 cp, .int .i64 st, .int .i64 en]] w fun r w' => r = .returned (.tuple #[.int .i64 (aloneV fx fy tx ty pe pl de dl ld sv hx hy cp st en), .bool (aloneB fx fy tx ty pe pl de dl ld sv hx hy cp st en)]) ∧ Below w.heap.size w w' := by
  have hP : At ((w.alloc (.cells #[.int .i64 fx, .int .i64 fy, .int .i64 tx, .int .i64 ty, .int .i64 pe, .int .i64 pl, .int .i64 de, .int .i64 dl, .int .i64 ld, .int .i64 sv] 27)).alloc (.cells #[.int .i64 hx, .int .i64 hy, .int .i64 cp, .int .i64 st, .int .i64 en] 29)) w.heap.size 27 #[.int .i64 fx, .int .i64 fy, .int .i64 tx, .int .i64 ty, .int .i64 pe, .int .i64 pl, .int .i64 de, .int .i64 dl, .int .i64 ld, .int .i64 sv] := (At.new w _ _).alloc _
  have hV : At ((w.alloc (.cells #[.int .i64 fx, .int .i64 fy, .int .i64 tx, .int .i64 ty, .int .i64 pe, .int .i64 pl, .int .i64 de, .int .i64 dl, .int .i64 ld, .int .i64 sv] 27)).alloc (.cells #[.int .i64 hx, .int .i64 hy, .int .i64 cp, .int .i64 st, .int .i64 en] 29)) (w.heap.size + 1) 29 #[.int .i64 hx, .int .i64 hy, .int .i64 cp, .int .i64 st, .int .i64 en] := At.new_ _ _ _ (by simp)
  have hB : Below w.heap.size w ((w.alloc (.cells #[.int .i64 fx, .int .i64 fy, .int .i64 tx, .int .i64 ty, .int .i64 pe, .int .i64 pl, .int .i64 de, .int .i64 dl, .int .i64 ld, .int .i64 sv] 27)).alloc (.cells #[.int .i64 hx, .int .i64 hy, .int .i64 cp, .int .i64 st, .int .i64 en] 29)) := ((Below.refl _ _).alloc (Nat.le_refl _) _).alloc (by simp) _
  obtain ⟨C, hC⟩ : ∃ C, chk fx fy tx ty pe pl de dl ld sv = C := ⟨_, rfl⟩
  obtain ⟨Z, hZ⟩ : ∃ Z, veh hx hy cp st en = Z := ⟨_, rfl⟩
  have cC : ∀ w, Calls Try.prog 10 #[.agg #[.int .i64 fx, .int .i64 fy, .int .i64 tx, .int .i64 ty, .int .i64 pe, .int .i64 pl, .int .i64 de, .int .i64 dl, .int .i64 ld, .int .i64 sv]] w fun r w' => r = .returned (.int .i64 C) ∧ Below w.heap.size w w' := fun w => by rw [← hC]; exact Check_any fx fy tx ty pe pl de dl ld sv w
  have cZ : ∀ w, Calls Try.prog 12 #[.agg #[.int .i64 hx, .int .i64 hy, .int .i64 cp, .int .i64 st, .int .i64 en]] w fun r w' => r = .returned (.int .i64 Z) ∧ Below w.heap.size w w' := fun w => by rw [← hZ]; exact Vehicle_any hx hy cp st en w
  by_cases h1 : C = 0
  · skip
    subst h1
    by_cases h2 : Z = 0
    · skip
      subst h2
      by_cases h3 : ld ≤ cp
      · skip
        have hc := (chk_iff fx fy tx ty pe pl de dl ld sv).1 hC
        have hz := (veh_iff hx hy cp st en).1 hZ
        obtain ⟨_, ⟨hok1, hok2⟩, _, hs1, hs2⟩ := hc
        obtain ⟨_, ⟨_, _⟩, ⟨ht1, ht2⟩, _, ht3⟩ := hz
        have hok1' := (okB_iff _ _).1 hok1
        have hok2' := (okB_iff _ _).1 hok2
        obtain ⟨D1, hD1⟩ : ∃ D, distV (hx, hy) (fx, fy) = D := ⟨_, rfl⟩
        obtain ⟨D2, hD2⟩ : ∃ D, distV (fx, fy) (tx, ty) = D := ⟨_, rfl⟩
        obtain ⟨D3, hD3⟩ : ∃ D, distV (tx, ty) (hx, hy) = D := ⟨_, rfl⟩
        have b1 := distV_bd (hx, hy) (fx, fy)
        have b2 := distV_bd (fx, fy) (tx, ty)
        have b3 := distV_bd (tx, ty) (hx, hy)
        rw [hD1] at b1
        rw [hD2] at b2
        rw [hD3] at b3
        obtain ⟨b1l, b1h⟩ := b1
        obtain ⟨b2l, b2h⟩ := b2
        obtain ⟨b3l, b3h⟩ := b3
        obtain ⟨A, hA⟩ : ∃ A, max (st + D1) pe = A := ⟨_, rfl⟩
        obtain ⟨E, hE⟩ : ∃ E, max (A + sv + D2) de = E := ⟨_, rfl⟩
        have eA : tA fx fy tx ty pe pl de dl ld sv hx hy cp st en = A := by unfold tA; rw [hD1, hA]
        have eB : tB fx fy tx ty pe pl de dl ld sv hx hy cp st en = E := by unfold tB; rw [eA, hD2, hE]
        have eH : tH fx fy tx ty pe pl de dl ld sv hx hy cp st en = E + sv + D3 := by unfold tH; rw [eB, hD3]
        have a0 : 0 ≤ A := by omega
        have e0 : 0 ≤ E := by omega
        have cD : ∀ w, Calls Try.prog 33 #[.agg #[.int .i64 tx, .int .i64 ty], .agg #[.int .i64 hx, .int .i64 hy]] w fun r w' => r = .returned (.int .i64 D3) ∧ Below w.heap.size w w' := fun w => by rw [← hD3]; exact Dist_any _ _ _ _ w
        by_cases hAl : A ≤ pl
        · skip
          by_cases hEl : E ≤ dl
          · skip
            by_cases hHl : E + sv + D3 ≤ en
            · have hn := Lib.hid (@alone_yes fx fy tx ty pe pl de dl ld sv hx hy cp st en ⟨hC, hZ, h3, by rw [eA]; exact hAl, by rw [eB]; exact hEl, by rw [eH]; exact hHl⟩)
              rw [eH] at hn
              have hk := Lib.hid (And.intro hD1 (And.intro hA (And.intro hD2 hE)))
              clear hC hZ hD1 hD2 hD3 hA hE eA eB eH
              go_enter Try.func15, Try.ntmps15
              go_wp2_with fail
              generalize ((w.alloc (.cells #[.int .i64 fx, .int .i64 fy, .int .i64 tx, .int .i64 ty, .int .i64 pe, .int .i64 pl, .int .i64 de, .int .i64 dl, .int .i64 ld, .int .i64 sv] 27)).alloc (.cells #[.int .i64 hx, .int .i64 hy, .int .i64 cp, .int .i64 st, .int .i64 en] 29)) = w0 at *
              refine (cC _).mono ?_
              rintro e w' ⟨rfl, hb1⟩
              replace hP := hP.keep hb1 hP.inside
              replace hV := hV.keep hb1 hV.inside
              replace hB := hB.trans (hb1.mono hB.size)
              clear hb1
              try clear c0 c1 c2 c3 c4 c5 c6 c7 c8 c9 v0 v1 v2 v3 v4
              have c0 := hP.cell 0
              have c1 := hP.cell 1
              have c2 := hP.cell 2
              have c3 := hP.cell 3
              have c4 := hP.cell 4
              have c5 := hP.cell 5
              have c6 := hP.cell 6
              have c7 := hP.cell 7
              have c8 := hP.cell 8
              have c9 := hP.cell 9
              simp at c0 c1 c2 c3 c4 c5 c6 c7 c8 c9
              have v0 := hV.cell 0
              have v1 := hV.cell 1
              have v2 := hV.cell 2
              have v3 := hV.cell 3
              have v4 := hV.cell 4
              simp at v0 v1 v2 v3 v4
              go_wp2_with fail
              refine (cZ _).mono ?_
              rintro e w' ⟨rfl, hb1⟩
              replace hP := hP.keep hb1 hP.inside
              replace hV := hV.keep hb1 hV.inside
              replace hB := hB.trans (hb1.mono hB.size)
              clear hb1
              try clear c0 c1 c2 c3 c4 c5 c6 c7 c8 c9 v0 v1 v2 v3 v4
              have c0 := hP.cell 0
              have c1 := hP.cell 1
              have c2 := hP.cell 2
              have c3 := hP.cell 3
              have c4 := hP.cell 4
              have c5 := hP.cell 5
              have c6 := hP.cell 6
              have c7 := hP.cell 7
              have c8 := hP.cell 8
              have c9 := hP.cell 9
              simp at c0 c1 c2 c3 c4 c5 c6 c7 c8 c9
              have v0 := hV.cell 0
              have v1 := hV.cell 1
              have v2 := hV.cell 2
              have v3 := hV.cell 3
              have v4 := hV.cell 4
              simp at v0 v1 v2 v3 v4
              go_wp2_with fail
              have hwl := hV.inside
              have hwp := hP.inside
              go_upto_region 3 with fail
              go_cut [6, 7] from 9 to 55 (fun s6 s7 wx => ∃ g h, s6 = .pointer (some ⟨g, 0, none⟩) ∧ s7 = .pointer (some ⟨h, 0, none⟩) ∧ At wx g 23 #[.int .i64 hx, .int .i64 hy] ∧ At wx h 3 #[.int .i64 st] ∧ At wx w.heap.size 27 #[.int .i64 fx, .int .i64 fy, .int .i64 tx, .int .i64 ty, .int .i64 pe, .int .i64 pl, .int .i64 de, .int .i64 dl, .int .i64 ld, .int .i64 sv] ∧ At wx (w.heap.size + 1) 29 #[.int .i64 hx, .int .i64 hy, .int .i64 cp, .int .i64 st, .int .i64 en] ∧ h ≠ g ∧ w.heap.size + 1 < g ∧ w.heap.size + 1 < h ∧ Below w.heap.size w wx)
              case first =>
                go_region
                all_goals
                  go_wp2_with fail
                  go_meet
                  refine ⟨_, _, rfl, rfl, ?_, ?_, ((hP.alloc _).alloc _).drew, ((hV.alloc _).alloc _).drew, by omega, by omega, by omega, ((hB.alloc hB.size _).alloc (by simp; have := hB.size; omega) _).drew⟩
                  · first
                    | exact ((At.new _ _ _).alloc _).drew
                    | exact (At.new_ _ _ _ (by simp)).drew
                  · first
                    | exact ((At.new _ _ _).alloc _).drew
                    | exact (At.new_ _ _ _ (by simp)).drew
              case rest =>
                obtain ⟨g, h, rfl, rfl, hG, hH, hP, hV, hne, hg, hh, hB⟩ := hcut
                clear hwl hwp
                have c0 := hP.cell 0
                have c1 := hP.cell 1
                have c2 := hP.cell 2
                have c3 := hP.cell 3
                have c4 := hP.cell 4
                have c5 := hP.cell 5
                have c6 := hP.cell 6
                have c7 := hP.cell 7
                have c8 := hP.cell 8
                have c9 := hP.cell 9
                simp at c0 c1 c2 c3 c4 c5 c6 c7 c8 c9
                have v0 := hV.cell 0
                have v1 := hV.cell 1
                have v2 := hV.cell 2
                have v3 := hV.cell 3
                have v4 := hV.cell 4
                simp at v0 v1 v2 v3 v4
                have g0 := hG.cell 0
                have g1 := hG.cell 1
                simp at g0 g1
                have h0 := hH.cell 0
                simp at h0
                go_wp2_with fail
                refine (Alone1_yes fx fy pe pl st hx hy D1 A fx fy tx ty pe pl de dl ld sv h g w.heap.size (w.heap.size + 2) _ hok1 (by omega) ⟨hs1, hs2⟩ hk.out.1 hk.out.2.1 hAl hH hG hP hne (by omega) (by omega)).mono ?_
                rintro r w5 ⟨rfl, hH', hG', hb5⟩
                replace hP := hP.keep hb5 (by omega)
                replace hV := hV.keep hb5 (by omega)
                replace hB := hB.trans (hb5.mono (by omega))
                clear hH hG hb5 c0 c1 c2 c3 c4 c5 c6 c7 c8 c9 v0 v1 v2 v3 v4 g0 g1 h0
                have hH := hH'
                have hG := hG'
                clear hH' hG'
                have c0 := hP.cell 0
                have c1 := hP.cell 1
                have c2 := hP.cell 2
                have c3 := hP.cell 3
                have c4 := hP.cell 4
                have c5 := hP.cell 5
                have c6 := hP.cell 6
                have c7 := hP.cell 7
                have c8 := hP.cell 8
                have c9 := hP.cell 9
                simp at c0 c1 c2 c3 c4 c5 c6 c7 c8 c9
                have v0 := hV.cell 0
                have v1 := hV.cell 1
                have v2 := hV.cell 2
                have v3 := hV.cell 3
                have v4 := hV.cell 4
                simp at v0 v1 v2 v3 v4
                have g0 := hG.cell 0
                have g1 := hG.cell 1
                simp at g0 g1
                have h0 := hH.cell 0
                simp at h0
                go_wp2_with fail
                refine (Alone1_yes tx ty de dl (A + sv) fx fy D2 E fx fy tx ty pe pl de dl ld sv h g w.heap.size (w.heap.size + 2) _ hok2 (by omega) ⟨hs1, hs2⟩ hk.out.2.2.1 hk.out.2.2.2 hEl hH hG hP hne (by omega) (by omega)).mono ?_
                rintro r w5 ⟨rfl, hH', hG', hb5⟩
                replace hP := hP.keep hb5 (by omega)
                replace hV := hV.keep hb5 (by omega)
                replace hB := hB.trans (hb5.mono (by omega))
                clear hH hG hb5 c0 c1 c2 c3 c4 c5 c6 c7 c8 c9 v0 v1 v2 v3 v4 g0 g1 h0
                have hH := hH'
                have hG := hG'
                clear hH' hG'
                have c0 := hP.cell 0
                have c1 := hP.cell 1
                have c2 := hP.cell 2
                have c3 := hP.cell 3
                have c4 := hP.cell 4
                have c5 := hP.cell 5
                have c6 := hP.cell 6
                have c7 := hP.cell 7
                have c8 := hP.cell 8
                have c9 := hP.cell 9
                simp at c0 c1 c2 c3 c4 c5 c6 c7 c8 c9
                have v0 := hV.cell 0
                have v1 := hV.cell 1
                have v2 := hV.cell 2
                have v3 := hV.cell 3
                have v4 := hV.cell 4
                simp at v0 v1 v2 v3 v4
                have g0 := hG.cell 0
                have g1 := hG.cell 1
                simp at g0 g1
                have h0 := hH.cell 0
                simp at h0
                go_wp2_with fail
                have kc0 := cell_regrown c0
                have kc1 := cell_regrown c1
                have kc2 := cell_regrown c2
                have kc3 := cell_regrown c3
                have kc4 := cell_regrown c4
                have kc5 := cell_regrown c5
                have kc6 := cell_regrown c6
                have kc7 := cell_regrown c7
                have kc8 := cell_regrown c8
                have kc9 := cell_regrown c9
                have kv0 := cell_regrown v0
                have kv1 := cell_regrown v1
                have kv2 := cell_regrown v2
                have kv3 := cell_regrown v3
                have kv4 := cell_regrown v4
                have kg0 := cell_regrown g0
                have kg1 := cell_regrown g1
                have kh0 := cell_regrown h0
                have kD := fun d os => Calls.regrown_of (cD (grow (redrawn w5 d) os))
                refine wp_region_quiet_below (by kernel_rfl) (by kernel_rfl) ?_
                repeat (go_big_quiet_step (with_reducible exact kD _ _))
                refine wpQuiet_nil ?_
                intro _ hw'
                obtain ⟨⟨dq, osq⟩, hw''⟩ := hw'
                subst hw''
                have hBE := hB.trans ((below_regrown w5 dq osq).mono hB.size)
                have hVE := hV.keep (below_regrown w5 dq osq) hV.inside
                generalize grow (redrawn w5 dq) osq = w6 at *
                clear kD kc0 kc1 kc2 kc3 kc4 kc5 kc6 kc7 kc8 kc9 kv0 kv1 kv2 kv3 kv4 kg0 kg1 kh0 c0 c1 c2 c3 c4 c5 c6 c7 c8 c9 v0 v1 v2 v3 v4 g0 g1 h0
                have v0 := hVE.cell 0
                have v1 := hVE.cell 1
                have v2 := hVE.cell 2
                have v3 := hVE.cell 3
                have v4 := hVE.cell 4
                simp at v0 v1 v2 v3 v4
                go_wp2
                refine bodyPost_ret (v := .tuple #[.int .i64 (E + sv + D3), .bool true]) (by simp [results, Try.results15, go_sem]) rfl ?_
                exact ⟨ret_ib2 hn.out, hBE⟩
            · have hn := Lib.hid (@alone_no fx fy tx ty pe pl de dl ld sv hx hy cp st en (by rw [eA, eB, eH]; exact fun h => hHl h.2.2.2.2.2))
              have hk := Lib.hid (And.intro hD1 (And.intro hA (And.intro hD2 hE)))
              clear hC hZ hD1 hD2 hD3 hA hE eA eB eH
              go_enter Try.func15, Try.ntmps15
              go_wp2_with fail
              generalize ((w.alloc (.cells #[.int .i64 fx, .int .i64 fy, .int .i64 tx, .int .i64 ty, .int .i64 pe, .int .i64 pl, .int .i64 de, .int .i64 dl, .int .i64 ld, .int .i64 sv] 27)).alloc (.cells #[.int .i64 hx, .int .i64 hy, .int .i64 cp, .int .i64 st, .int .i64 en] 29)) = w0 at *
              refine (cC _).mono ?_
              rintro e w' ⟨rfl, hb1⟩
              replace hP := hP.keep hb1 hP.inside
              replace hV := hV.keep hb1 hV.inside
              replace hB := hB.trans (hb1.mono hB.size)
              clear hb1
              try clear c0 c1 c2 c3 c4 c5 c6 c7 c8 c9 v0 v1 v2 v3 v4
              have c0 := hP.cell 0
              have c1 := hP.cell 1
              have c2 := hP.cell 2
              have c3 := hP.cell 3
              have c4 := hP.cell 4
              have c5 := hP.cell 5
              have c6 := hP.cell 6
              have c7 := hP.cell 7
              have c8 := hP.cell 8
              have c9 := hP.cell 9
              simp at c0 c1 c2 c3 c4 c5 c6 c7 c8 c9
              have v0 := hV.cell 0
              have v1 := hV.cell 1
              have v2 := hV.cell 2
              have v3 := hV.cell 3
              have v4 := hV.cell 4
              simp at v0 v1 v2 v3 v4
              go_wp2_with fail
              refine (cZ _).mono ?_
              rintro e w' ⟨rfl, hb1⟩
              replace hP := hP.keep hb1 hP.inside
              replace hV := hV.keep hb1 hV.inside
              replace hB := hB.trans (hb1.mono hB.size)
              clear hb1
              try clear c0 c1 c2 c3 c4 c5 c6 c7 c8 c9 v0 v1 v2 v3 v4
              have c0 := hP.cell 0
              have c1 := hP.cell 1
              have c2 := hP.cell 2
              have c3 := hP.cell 3
              have c4 := hP.cell 4
              have c5 := hP.cell 5
              have c6 := hP.cell 6
              have c7 := hP.cell 7
              have c8 := hP.cell 8
              have c9 := hP.cell 9
              simp at c0 c1 c2 c3 c4 c5 c6 c7 c8 c9
              have v0 := hV.cell 0
              have v1 := hV.cell 1
              have v2 := hV.cell 2
              have v3 := hV.cell 3
              have v4 := hV.cell 4
              simp at v0 v1 v2 v3 v4
              go_wp2_with fail
              have hwl := hV.inside
              have hwp := hP.inside
              go_upto_region 3 with fail
              go_cut [6, 7] from 9 to 55 (fun s6 s7 wx => ∃ g h, s6 = .pointer (some ⟨g, 0, none⟩) ∧ s7 = .pointer (some ⟨h, 0, none⟩) ∧ At wx g 23 #[.int .i64 hx, .int .i64 hy] ∧ At wx h 3 #[.int .i64 st] ∧ At wx w.heap.size 27 #[.int .i64 fx, .int .i64 fy, .int .i64 tx, .int .i64 ty, .int .i64 pe, .int .i64 pl, .int .i64 de, .int .i64 dl, .int .i64 ld, .int .i64 sv] ∧ At wx (w.heap.size + 1) 29 #[.int .i64 hx, .int .i64 hy, .int .i64 cp, .int .i64 st, .int .i64 en] ∧ h ≠ g ∧ w.heap.size + 1 < g ∧ w.heap.size + 1 < h ∧ Below w.heap.size w wx)
              case first =>
                go_region
                all_goals
                  go_wp2_with fail
                  go_meet
                  refine ⟨_, _, rfl, rfl, ?_, ?_, ((hP.alloc _).alloc _).drew, ((hV.alloc _).alloc _).drew, by omega, by omega, by omega, ((hB.alloc hB.size _).alloc (by simp; have := hB.size; omega) _).drew⟩
                  · first
                    | exact ((At.new _ _ _).alloc _).drew
                    | exact (At.new_ _ _ _ (by simp)).drew
                  · first
                    | exact ((At.new _ _ _).alloc _).drew
                    | exact (At.new_ _ _ _ (by simp)).drew
              case rest =>
                obtain ⟨g, h, rfl, rfl, hG, hH, hP, hV, hne, hg, hh, hB⟩ := hcut
                clear hwl hwp
                have c0 := hP.cell 0
                have c1 := hP.cell 1
                have c2 := hP.cell 2
                have c3 := hP.cell 3
                have c4 := hP.cell 4
                have c5 := hP.cell 5
                have c6 := hP.cell 6
                have c7 := hP.cell 7
                have c8 := hP.cell 8
                have c9 := hP.cell 9
                simp at c0 c1 c2 c3 c4 c5 c6 c7 c8 c9
                have v0 := hV.cell 0
                have v1 := hV.cell 1
                have v2 := hV.cell 2
                have v3 := hV.cell 3
                have v4 := hV.cell 4
                simp at v0 v1 v2 v3 v4
                have g0 := hG.cell 0
                have g1 := hG.cell 1
                simp at g0 g1
                have h0 := hH.cell 0
                simp at h0
                go_wp2_with fail
                refine (Alone1_yes fx fy pe pl st hx hy D1 A fx fy tx ty pe pl de dl ld sv h g w.heap.size (w.heap.size + 2) _ hok1 (by omega) ⟨hs1, hs2⟩ hk.out.1 hk.out.2.1 hAl hH hG hP hne (by omega) (by omega)).mono ?_
                rintro r w5 ⟨rfl, hH', hG', hb5⟩
                replace hP := hP.keep hb5 (by omega)
                replace hV := hV.keep hb5 (by omega)
                replace hB := hB.trans (hb5.mono (by omega))
                clear hH hG hb5 c0 c1 c2 c3 c4 c5 c6 c7 c8 c9 v0 v1 v2 v3 v4 g0 g1 h0
                have hH := hH'
                have hG := hG'
                clear hH' hG'
                have c0 := hP.cell 0
                have c1 := hP.cell 1
                have c2 := hP.cell 2
                have c3 := hP.cell 3
                have c4 := hP.cell 4
                have c5 := hP.cell 5
                have c6 := hP.cell 6
                have c7 := hP.cell 7
                have c8 := hP.cell 8
                have c9 := hP.cell 9
                simp at c0 c1 c2 c3 c4 c5 c6 c7 c8 c9
                have v0 := hV.cell 0
                have v1 := hV.cell 1
                have v2 := hV.cell 2
                have v3 := hV.cell 3
                have v4 := hV.cell 4
                simp at v0 v1 v2 v3 v4
                have g0 := hG.cell 0
                have g1 := hG.cell 1
                simp at g0 g1
                have h0 := hH.cell 0
                simp at h0
                go_wp2_with fail
                refine (Alone1_yes tx ty de dl (A + sv) fx fy D2 E fx fy tx ty pe pl de dl ld sv h g w.heap.size (w.heap.size + 2) _ hok2 (by omega) ⟨hs1, hs2⟩ hk.out.2.2.1 hk.out.2.2.2 hEl hH hG hP hne (by omega) (by omega)).mono ?_
                rintro r w5 ⟨rfl, hH', hG', hb5⟩
                replace hP := hP.keep hb5 (by omega)
                replace hV := hV.keep hb5 (by omega)
                replace hB := hB.trans (hb5.mono (by omega))
                clear hH hG hb5 c0 c1 c2 c3 c4 c5 c6 c7 c8 c9 v0 v1 v2 v3 v4 g0 g1 h0
                have hH := hH'
                have hG := hG'
                clear hH' hG'
                have c0 := hP.cell 0
                have c1 := hP.cell 1
                have c2 := hP.cell 2
                have c3 := hP.cell 3
                have c4 := hP.cell 4
                have c5 := hP.cell 5
                have c6 := hP.cell 6
                have c7 := hP.cell 7
                have c8 := hP.cell 8
                have c9 := hP.cell 9
                simp at c0 c1 c2 c3 c4 c5 c6 c7 c8 c9
                have v0 := hV.cell 0
                have v1 := hV.cell 1
                have v2 := hV.cell 2
                have v3 := hV.cell 3
                have v4 := hV.cell 4
                simp at v0 v1 v2 v3 v4
                have g0 := hG.cell 0
                have g1 := hG.cell 1
                simp at g0 g1
                have h0 := hH.cell 0
                simp at h0
                go_wp2_with fail
                have kc0 := cell_regrown c0
                have kc1 := cell_regrown c1
                have kc2 := cell_regrown c2
                have kc3 := cell_regrown c3
                have kc4 := cell_regrown c4
                have kc5 := cell_regrown c5
                have kc6 := cell_regrown c6
                have kc7 := cell_regrown c7
                have kc8 := cell_regrown c8
                have kc9 := cell_regrown c9
                have kv0 := cell_regrown v0
                have kv1 := cell_regrown v1
                have kv2 := cell_regrown v2
                have kv3 := cell_regrown v3
                have kv4 := cell_regrown v4
                have kg0 := cell_regrown g0
                have kg1 := cell_regrown g1
                have kh0 := cell_regrown h0
                have kD := fun d os => Calls.regrown_of (cD (grow (redrawn w5 d) os))
                refine wp_region_quiet_below (by kernel_rfl) (by kernel_rfl) ?_
                repeat (go_big_quiet_step (with_reducible exact kD _ _))
                refine wpQuiet_nil ?_
                intro _ hw'
                obtain ⟨⟨dq, osq⟩, hw''⟩ := hw'
                subst hw''
                have hBE := hB.trans ((below_regrown w5 dq osq).mono hB.size)
                have hVE := hV.keep (below_regrown w5 dq osq) hV.inside
                generalize grow (redrawn w5 dq) osq = w6 at *
                clear kD kc0 kc1 kc2 kc3 kc4 kc5 kc6 kc7 kc8 kc9 kv0 kv1 kv2 kv3 kv4 kg0 kg1 kh0 c0 c1 c2 c3 c4 c5 c6 c7 c8 c9 v0 v1 v2 v3 v4 g0 g1 h0
                have v0 := hVE.cell 0
                have v1 := hVE.cell 1
                have v2 := hVE.cell 2
                have v3 := hVE.cell 3
                have v4 := hVE.cell 4
                simp at v0 v1 v2 v3 v4
                go_wp2
                refine bodyPost_ret (v := .tuple #[.int .i64 0, .bool false]) (by simp [results, Try.results15, go_sem]) rfl ?_
                exact ⟨ret_ib2 hn.out, hBE⟩
          · have hn := Lib.hid (@alone_no fx fy tx ty pe pl de dl ld sv hx hy cp st en (by rw [eA, eB]; exact fun h => hEl h.2.2.2.2.1))
            have hk := Lib.hid (And.intro hD1 (And.intro hA (And.intro hD2 hE)))
            clear hC hZ hD1 hD2 hD3 hA hE eA eB eH
            go_enter Try.func15, Try.ntmps15
            go_wp2_with fail
            generalize ((w.alloc (.cells #[.int .i64 fx, .int .i64 fy, .int .i64 tx, .int .i64 ty, .int .i64 pe, .int .i64 pl, .int .i64 de, .int .i64 dl, .int .i64 ld, .int .i64 sv] 27)).alloc (.cells #[.int .i64 hx, .int .i64 hy, .int .i64 cp, .int .i64 st, .int .i64 en] 29)) = w0 at *
            refine (cC _).mono ?_
            rintro e w' ⟨rfl, hb1⟩
            replace hP := hP.keep hb1 hP.inside
            replace hV := hV.keep hb1 hV.inside
            replace hB := hB.trans (hb1.mono hB.size)
            clear hb1
            try clear c0 c1 c2 c3 c4 c5 c6 c7 c8 c9 v0 v1 v2 v3 v4
            have c0 := hP.cell 0
            have c1 := hP.cell 1
            have c2 := hP.cell 2
            have c3 := hP.cell 3
            have c4 := hP.cell 4
            have c5 := hP.cell 5
            have c6 := hP.cell 6
            have c7 := hP.cell 7
            have c8 := hP.cell 8
            have c9 := hP.cell 9
            simp at c0 c1 c2 c3 c4 c5 c6 c7 c8 c9
            have v0 := hV.cell 0
            have v1 := hV.cell 1
            have v2 := hV.cell 2
            have v3 := hV.cell 3
            have v4 := hV.cell 4
            simp at v0 v1 v2 v3 v4
            go_wp2_with fail
            refine (cZ _).mono ?_
            rintro e w' ⟨rfl, hb1⟩
            replace hP := hP.keep hb1 hP.inside
            replace hV := hV.keep hb1 hV.inside
            replace hB := hB.trans (hb1.mono hB.size)
            clear hb1
            try clear c0 c1 c2 c3 c4 c5 c6 c7 c8 c9 v0 v1 v2 v3 v4
            have c0 := hP.cell 0
            have c1 := hP.cell 1
            have c2 := hP.cell 2
            have c3 := hP.cell 3
            have c4 := hP.cell 4
            have c5 := hP.cell 5
            have c6 := hP.cell 6
            have c7 := hP.cell 7
            have c8 := hP.cell 8
            have c9 := hP.cell 9
            simp at c0 c1 c2 c3 c4 c5 c6 c7 c8 c9
            have v0 := hV.cell 0
            have v1 := hV.cell 1
            have v2 := hV.cell 2
            have v3 := hV.cell 3
            have v4 := hV.cell 4
            simp at v0 v1 v2 v3 v4
            go_wp2_with fail
            have hwl := hV.inside
            have hwp := hP.inside
            go_upto_region 3 with fail
            go_cut [6, 7] from 9 to 55 (fun s6 s7 wx => ∃ g h, s6 = .pointer (some ⟨g, 0, none⟩) ∧ s7 = .pointer (some ⟨h, 0, none⟩) ∧ At wx g 23 #[.int .i64 hx, .int .i64 hy] ∧ At wx h 3 #[.int .i64 st] ∧ At wx w.heap.size 27 #[.int .i64 fx, .int .i64 fy, .int .i64 tx, .int .i64 ty, .int .i64 pe, .int .i64 pl, .int .i64 de, .int .i64 dl, .int .i64 ld, .int .i64 sv] ∧ At wx (w.heap.size + 1) 29 #[.int .i64 hx, .int .i64 hy, .int .i64 cp, .int .i64 st, .int .i64 en] ∧ h ≠ g ∧ w.heap.size + 1 < g ∧ w.heap.size + 1 < h ∧ Below w.heap.size w wx)
            case first =>
              go_region
              all_goals
                go_wp2_with fail
                go_meet
                refine ⟨_, _, rfl, rfl, ?_, ?_, ((hP.alloc _).alloc _).drew, ((hV.alloc _).alloc _).drew, by omega, by omega, by omega, ((hB.alloc hB.size _).alloc (by simp; have := hB.size; omega) _).drew⟩
                · first
                  | exact ((At.new _ _ _).alloc _).drew
                  | exact (At.new_ _ _ _ (by simp)).drew
                · first
                  | exact ((At.new _ _ _).alloc _).drew
                  | exact (At.new_ _ _ _ (by simp)).drew
            case rest =>
              obtain ⟨g, h, rfl, rfl, hG, hH, hP, hV, hne, hg, hh, hB⟩ := hcut
              clear hwl hwp
              have c0 := hP.cell 0
              have c1 := hP.cell 1
              have c2 := hP.cell 2
              have c3 := hP.cell 3
              have c4 := hP.cell 4
              have c5 := hP.cell 5
              have c6 := hP.cell 6
              have c7 := hP.cell 7
              have c8 := hP.cell 8
              have c9 := hP.cell 9
              simp at c0 c1 c2 c3 c4 c5 c6 c7 c8 c9
              have v0 := hV.cell 0
              have v1 := hV.cell 1
              have v2 := hV.cell 2
              have v3 := hV.cell 3
              have v4 := hV.cell 4
              simp at v0 v1 v2 v3 v4
              have g0 := hG.cell 0
              have g1 := hG.cell 1
              simp at g0 g1
              have h0 := hH.cell 0
              simp at h0
              go_wp2_with fail
              refine (Alone1_yes fx fy pe pl st hx hy D1 A fx fy tx ty pe pl de dl ld sv h g w.heap.size (w.heap.size + 2) _ hok1 (by omega) ⟨hs1, hs2⟩ hk.out.1 hk.out.2.1 hAl hH hG hP hne (by omega) (by omega)).mono ?_
              rintro r w5 ⟨rfl, hH', hG', hb5⟩
              replace hP := hP.keep hb5 (by omega)
              replace hV := hV.keep hb5 (by omega)
              replace hB := hB.trans (hb5.mono (by omega))
              clear hH hG hb5 c0 c1 c2 c3 c4 c5 c6 c7 c8 c9 v0 v1 v2 v3 v4 g0 g1 h0
              have hH := hH'
              have hG := hG'
              clear hH' hG'
              have c0 := hP.cell 0
              have c1 := hP.cell 1
              have c2 := hP.cell 2
              have c3 := hP.cell 3
              have c4 := hP.cell 4
              have c5 := hP.cell 5
              have c6 := hP.cell 6
              have c7 := hP.cell 7
              have c8 := hP.cell 8
              have c9 := hP.cell 9
              simp at c0 c1 c2 c3 c4 c5 c6 c7 c8 c9
              have v0 := hV.cell 0
              have v1 := hV.cell 1
              have v2 := hV.cell 2
              have v3 := hV.cell 3
              have v4 := hV.cell 4
              simp at v0 v1 v2 v3 v4
              have g0 := hG.cell 0
              have g1 := hG.cell 1
              simp at g0 g1
              have h0 := hH.cell 0
              simp at h0
              go_wp2_with fail
              refine (Alone1_no tx ty de dl (A + sv) fx fy D2 E fx fy tx ty pe pl de dl ld sv h g w.heap.size (w.heap.size + 2) _ hok2 (by omega) ⟨hs1, hs2⟩ hk.out.2.2.1 hk.out.2.2.2 (by omega) hH hG hP hne (by omega) (by omega)).mono ?_
              rintro r w5 ⟨rfl, hb5⟩
              go_wp2
              refine bodyPost_ret (v := .tuple #[.int .i64 0, .bool false]) (by simp [results, Try.results15, go_sem]) rfl ?_
              exact ⟨ret_ib2 hn.out, hB.trans (hb5.mono (by omega))⟩
        · have hn := Lib.hid (@alone_no fx fy tx ty pe pl de dl ld sv hx hy cp st en (by rw [eA]; exact fun h => hAl h.2.2.2.1))
          have hk := Lib.hid (And.intro hD1 (And.intro hA (And.intro hD2 hE)))
          clear hC hZ hD1 hD2 hD3 hA hE eA eB eH
          go_enter Try.func15, Try.ntmps15
          go_wp2_with fail
          generalize ((w.alloc (.cells #[.int .i64 fx, .int .i64 fy, .int .i64 tx, .int .i64 ty, .int .i64 pe, .int .i64 pl, .int .i64 de, .int .i64 dl, .int .i64 ld, .int .i64 sv] 27)).alloc (.cells #[.int .i64 hx, .int .i64 hy, .int .i64 cp, .int .i64 st, .int .i64 en] 29)) = w0 at *
          refine (cC _).mono ?_
          rintro e w' ⟨rfl, hb1⟩
          replace hP := hP.keep hb1 hP.inside
          replace hV := hV.keep hb1 hV.inside
          replace hB := hB.trans (hb1.mono hB.size)
          clear hb1
          try clear c0 c1 c2 c3 c4 c5 c6 c7 c8 c9 v0 v1 v2 v3 v4
          have c0 := hP.cell 0
          have c1 := hP.cell 1
          have c2 := hP.cell 2
          have c3 := hP.cell 3
          have c4 := hP.cell 4
          have c5 := hP.cell 5
          have c6 := hP.cell 6
          have c7 := hP.cell 7
          have c8 := hP.cell 8
          have c9 := hP.cell 9
          simp at c0 c1 c2 c3 c4 c5 c6 c7 c8 c9
          have v0 := hV.cell 0
          have v1 := hV.cell 1
          have v2 := hV.cell 2
          have v3 := hV.cell 3
          have v4 := hV.cell 4
          simp at v0 v1 v2 v3 v4
          go_wp2_with fail
          refine (cZ _).mono ?_
          rintro e w' ⟨rfl, hb1⟩
          replace hP := hP.keep hb1 hP.inside
          replace hV := hV.keep hb1 hV.inside
          replace hB := hB.trans (hb1.mono hB.size)
          clear hb1
          try clear c0 c1 c2 c3 c4 c5 c6 c7 c8 c9 v0 v1 v2 v3 v4
          have c0 := hP.cell 0
          have c1 := hP.cell 1
          have c2 := hP.cell 2
          have c3 := hP.cell 3
          have c4 := hP.cell 4
          have c5 := hP.cell 5
          have c6 := hP.cell 6
          have c7 := hP.cell 7
          have c8 := hP.cell 8
          have c9 := hP.cell 9
          simp at c0 c1 c2 c3 c4 c5 c6 c7 c8 c9
          have v0 := hV.cell 0
          have v1 := hV.cell 1
          have v2 := hV.cell 2
          have v3 := hV.cell 3
          have v4 := hV.cell 4
          simp at v0 v1 v2 v3 v4
          go_wp2_with fail
          have hwl := hV.inside
          have hwp := hP.inside
          go_upto_region 3 with fail
          go_cut [6, 7] from 9 to 55 (fun s6 s7 wx => ∃ g h, s6 = .pointer (some ⟨g, 0, none⟩) ∧ s7 = .pointer (some ⟨h, 0, none⟩) ∧ At wx g 23 #[.int .i64 hx, .int .i64 hy] ∧ At wx h 3 #[.int .i64 st] ∧ At wx w.heap.size 27 #[.int .i64 fx, .int .i64 fy, .int .i64 tx, .int .i64 ty, .int .i64 pe, .int .i64 pl, .int .i64 de, .int .i64 dl, .int .i64 ld, .int .i64 sv] ∧ At wx (w.heap.size + 1) 29 #[.int .i64 hx, .int .i64 hy, .int .i64 cp, .int .i64 st, .int .i64 en] ∧ h ≠ g ∧ w.heap.size + 1 < g ∧ w.heap.size + 1 < h ∧ Below w.heap.size w wx)
          case first =>
            go_region
            all_goals
              go_wp2_with fail
              go_meet
              refine ⟨_, _, rfl, rfl, ?_, ?_, ((hP.alloc _).alloc _).drew, ((hV.alloc _).alloc _).drew, by omega, by omega, by omega, ((hB.alloc hB.size _).alloc (by simp; have := hB.size; omega) _).drew⟩
              · first
                | exact ((At.new _ _ _).alloc _).drew
                | exact (At.new_ _ _ _ (by simp)).drew
              · first
                | exact ((At.new _ _ _).alloc _).drew
                | exact (At.new_ _ _ _ (by simp)).drew
          case rest =>
            obtain ⟨g, h, rfl, rfl, hG, hH, hP, hV, hne, hg, hh, hB⟩ := hcut
            clear hwl hwp
            have c0 := hP.cell 0
            have c1 := hP.cell 1
            have c2 := hP.cell 2
            have c3 := hP.cell 3
            have c4 := hP.cell 4
            have c5 := hP.cell 5
            have c6 := hP.cell 6
            have c7 := hP.cell 7
            have c8 := hP.cell 8
            have c9 := hP.cell 9
            simp at c0 c1 c2 c3 c4 c5 c6 c7 c8 c9
            have v0 := hV.cell 0
            have v1 := hV.cell 1
            have v2 := hV.cell 2
            have v3 := hV.cell 3
            have v4 := hV.cell 4
            simp at v0 v1 v2 v3 v4
            have g0 := hG.cell 0
            have g1 := hG.cell 1
            simp at g0 g1
            have h0 := hH.cell 0
            simp at h0
            go_wp2_with fail
            refine (Alone1_no fx fy pe pl st hx hy D1 A fx fy tx ty pe pl de dl ld sv h g w.heap.size (w.heap.size + 2) _ hok1 (by omega) ⟨hs1, hs2⟩ hk.out.1 hk.out.2.1 (by omega) hH hG hP hne (by omega) (by omega)).mono ?_
            rintro r w5 ⟨rfl, hb5⟩
            go_wp2
            refine bodyPost_ret (v := .tuple #[.int .i64 0, .bool false]) (by simp [results, Try.results15, go_sem]) rfl ?_
            exact ⟨ret_ib2 hn.out, hB.trans (hb5.mono (by omega))⟩
      · have hn := Lib.hid (@alone_no fx fy tx ty pe pl de dl ld sv hx hy cp st en (fun h => h3 h.2.2.1))
        clear hC hZ
        go_enter Try.func15, Try.ntmps15
        go_wp2_with fail
        generalize ((w.alloc (.cells #[.int .i64 fx, .int .i64 fy, .int .i64 tx, .int .i64 ty, .int .i64 pe, .int .i64 pl, .int .i64 de, .int .i64 dl, .int .i64 ld, .int .i64 sv] 27)).alloc (.cells #[.int .i64 hx, .int .i64 hy, .int .i64 cp, .int .i64 st, .int .i64 en] 29)) = w0 at *
        refine (cC _).mono ?_
        rintro e w' ⟨rfl, hb1⟩
        replace hP := hP.keep hb1 hP.inside
        replace hV := hV.keep hb1 hV.inside
        replace hB := hB.trans (hb1.mono hB.size)
        clear hb1
        try clear c0 c1 c2 c3 c4 c5 c6 c7 c8 c9 v0 v1 v2 v3 v4
        have c0 := hP.cell 0
        have c1 := hP.cell 1
        have c2 := hP.cell 2
        have c3 := hP.cell 3
        have c4 := hP.cell 4
        have c5 := hP.cell 5
        have c6 := hP.cell 6
        have c7 := hP.cell 7
        have c8 := hP.cell 8
        have c9 := hP.cell 9
        simp at c0 c1 c2 c3 c4 c5 c6 c7 c8 c9
        have v0 := hV.cell 0
        have v1 := hV.cell 1
        have v2 := hV.cell 2
        have v3 := hV.cell 3
        have v4 := hV.cell 4
        simp at v0 v1 v2 v3 v4
        go_wp2_with fail
        refine (cZ _).mono ?_
        rintro e w' ⟨rfl, hb1⟩
        replace hP := hP.keep hb1 hP.inside
        replace hV := hV.keep hb1 hV.inside
        replace hB := hB.trans (hb1.mono hB.size)
        clear hb1
        try clear c0 c1 c2 c3 c4 c5 c6 c7 c8 c9 v0 v1 v2 v3 v4
        have c0 := hP.cell 0
        have c1 := hP.cell 1
        have c2 := hP.cell 2
        have c3 := hP.cell 3
        have c4 := hP.cell 4
        have c5 := hP.cell 5
        have c6 := hP.cell 6
        have c7 := hP.cell 7
        have c8 := hP.cell 8
        have c9 := hP.cell 9
        simp at c0 c1 c2 c3 c4 c5 c6 c7 c8 c9
        have v0 := hV.cell 0
        have v1 := hV.cell 1
        have v2 := hV.cell 2
        have v3 := hV.cell 3
        have v4 := hV.cell 4
        simp at v0 v1 v2 v3 v4
        go_wp2
        refine bodyPost_ret (v := .tuple #[.int .i64 0, .bool false]) (by simp [results, Try.results15, go_sem]) rfl ?_
        exact ⟨ret_ib2 hn.out, hB⟩
    · have hn := Lib.hid (@alone_no fx fy tx ty pe pl de dl ld sv hx hy cp st en (by rw [hZ]; exact fun h => h2 h.2.1))
      clear hC hZ
      go_enter Try.func15, Try.ntmps15
      go_wp2_with fail
      generalize ((w.alloc (.cells #[.int .i64 fx, .int .i64 fy, .int .i64 tx, .int .i64 ty, .int .i64 pe, .int .i64 pl, .int .i64 de, .int .i64 dl, .int .i64 ld, .int .i64 sv] 27)).alloc (.cells #[.int .i64 hx, .int .i64 hy, .int .i64 cp, .int .i64 st, .int .i64 en] 29)) = w0 at *
      refine (cC _).mono ?_
      rintro e w' ⟨rfl, hb1⟩
      replace hP := hP.keep hb1 hP.inside
      replace hV := hV.keep hb1 hV.inside
      replace hB := hB.trans (hb1.mono hB.size)
      clear hb1
      try clear c0 c1 c2 c3 c4 c5 c6 c7 c8 c9 v0 v1 v2 v3 v4
      have c0 := hP.cell 0
      have c1 := hP.cell 1
      have c2 := hP.cell 2
      have c3 := hP.cell 3
      have c4 := hP.cell 4
      have c5 := hP.cell 5
      have c6 := hP.cell 6
      have c7 := hP.cell 7
      have c8 := hP.cell 8
      have c9 := hP.cell 9
      simp at c0 c1 c2 c3 c4 c5 c6 c7 c8 c9
      have v0 := hV.cell 0
      have v1 := hV.cell 1
      have v2 := hV.cell 2
      have v3 := hV.cell 3
      have v4 := hV.cell 4
      simp at v0 v1 v2 v3 v4
      go_wp2_with fail
      refine (cZ _).mono ?_
      rintro e w' ⟨rfl, hb1⟩
      replace hP := hP.keep hb1 hP.inside
      replace hV := hV.keep hb1 hV.inside
      replace hB := hB.trans (hb1.mono hB.size)
      clear hb1
      try clear c0 c1 c2 c3 c4 c5 c6 c7 c8 c9 v0 v1 v2 v3 v4
      have c0 := hP.cell 0
      have c1 := hP.cell 1
      have c2 := hP.cell 2
      have c3 := hP.cell 3
      have c4 := hP.cell 4
      have c5 := hP.cell 5
      have c6 := hP.cell 6
      have c7 := hP.cell 7
      have c8 := hP.cell 8
      have c9 := hP.cell 9
      simp at c0 c1 c2 c3 c4 c5 c6 c7 c8 c9
      have v0 := hV.cell 0
      have v1 := hV.cell 1
      have v2 := hV.cell 2
      have v3 := hV.cell 3
      have v4 := hV.cell 4
      simp at v0 v1 v2 v3 v4
      go_wp2
      refine bodyPost_ret (v := .tuple #[.int .i64 0, .bool false]) (by simp [results, Try.results15, go_sem]) rfl ?_
      exact ⟨ret_ib2 hn.out, hB⟩
  · have hn := Lib.hid (@alone_no fx fy tx ty pe pl de dl ld sv hx hy cp st en (by rw [hC]; exact fun h => h1 h.1))
    clear hC hZ
    go_enter Try.func15, Try.ntmps15
    go_wp2_with fail
    generalize ((w.alloc (.cells #[.int .i64 fx, .int .i64 fy, .int .i64 tx, .int .i64 ty, .int .i64 pe, .int .i64 pl, .int .i64 de, .int .i64 dl, .int .i64 ld, .int .i64 sv] 27)).alloc (.cells #[.int .i64 hx, .int .i64 hy, .int .i64 cp, .int .i64 st, .int .i64 en] 29)) = w0 at *
    refine (cC _).mono ?_
    rintro e w' ⟨rfl, hb1⟩
    replace hP := hP.keep hb1 hP.inside
    replace hV := hV.keep hb1 hV.inside
    replace hB := hB.trans (hb1.mono hB.size)
    clear hb1
    try clear c0 c1 c2 c3 c4 c5 c6 c7 c8 c9 v0 v1 v2 v3 v4
    have c0 := hP.cell 0
    have c1 := hP.cell 1
    have c2 := hP.cell 2
    have c3 := hP.cell 3
    have c4 := hP.cell 4
    have c5 := hP.cell 5
    have c6 := hP.cell 6
    have c7 := hP.cell 7
    have c8 := hP.cell 8
    have c9 := hP.cell 9
    simp at c0 c1 c2 c3 c4 c5 c6 c7 c8 c9
    have v0 := hV.cell 0
    have v1 := hV.cell 1
    have v2 := hV.cell 2
    have v3 := hV.cell 3
    have v4 := hV.cell 4
    simp at v0 v1 v2 v3 v4
    go_wp2
    refine bodyPost_ret (v := .tuple #[.int .i64 0, .bool false]) (by simp [results, Try.results15, go_sem]) rfl ?_
    exact ⟨ret_ib2 hn.out, hB⟩

end Go.Proofs.Ytcdgfjfomiokmaa.Order

/-
  The contract of what answers 'Alone' by definition.
-/
import Derived.Test.YtcdgfjfomiokmaaOrderAlone
namespace Go.Proofs.Ytcdgfjfomiokmaa.Order
open Go.RowKit Go.Sort Go.Proofs.Ytcdgfjfomiokmaa.Mem Go.Proofs.Ytcdgfjfomiokmaa.Place Go.Proofs.Ytcdgfjfomiokmaa.Window
set_option linter.unusedVariables false

set_option maxHeartbeats 8000000 in
theorem refAlone_any (fx fy tx ty pe pl de dl ld sv hx hy cp st en : Int) (w : World) :
    Calls Try.prog 16 #[.agg #[.int .i64 fx, .int .i64 fy, .int .i64 tx, .int .i64 ty, .int .i64 pe, .int .i64 pl, .int .i64 de, .int .i64 dl, .int .i64 ld, .int .i64 sv], .agg #[.int .i64 hx, .int .i64 hy, .int .i64 cp, .int .i64 st, .int .i64 en]] w fun r w' => r = .returned (.tuple #[.int .i64 (aloneV fx fy tx ty pe pl de dl ld sv hx hy cp st en), .bool (aloneB fx fy tx ty pe pl de dl ld sv hx hy cp st en)]) ∧ Below w.heap.size w w' := by
  have hP : At ((w.alloc (.cells #[.int .i64 fx, .int .i64 fy, .int .i64 tx, .int .i64 ty, .int .i64 pe, .int .i64 pl, .int .i64 de, .int .i64 dl, .int .i64 ld, .int .i64 sv] 27)).alloc (.cells #[.int .i64 hx, .int .i64 hy, .int .i64 cp, .int .i64 st, .int .i64 en] 29)) w.heap.size 27 #[.int .i64 fx, .int .i64 fy, .int .i64 tx, .int .i64 ty, .int .i64 pe, .int .i64 pl, .int .i64 de, .int .i64 dl, .int .i64 ld, .int .i64 sv] := (At.new w _ _).alloc _
  have hV : At ((w.alloc (.cells #[.int .i64 fx, .int .i64 fy, .int .i64 tx, .int .i64 ty, .int .i64 pe, .int .i64 pl, .int .i64 de, .int .i64 dl, .int .i64 ld, .int .i64 sv] 27)).alloc (.cells #[.int .i64 hx, .int .i64 hy, .int .i64 cp, .int .i64 st, .int .i64 en] 29)) (w.heap.size + 1) 29 #[.int .i64 hx, .int .i64 hy, .int .i64 cp, .int .i64 st, .int .i64 en] := At.new_ _ _ _ (by simp)
  have hB : Below w.heap.size w ((w.alloc (.cells #[.int .i64 fx, .int .i64 fy, .int .i64 tx, .int .i64 ty, .int .i64 pe, .int .i64 pl, .int .i64 de, .int .i64 dl, .int .i64 ld, .int .i64 sv] 27)).alloc (.cells #[.int .i64 hx, .int .i64 hy, .int .i64 cp, .int .i64 st, .int .i64 en] 29)) := ((Below.refl _ _).alloc (Nat.le_refl _) _).alloc (by simp) _
  obtain ⟨C, hC⟩ : ∃ C, chk fx fy tx ty pe pl de dl ld sv = C := ⟨_, rfl⟩
  obtain ⟨Z, hZ⟩ : ∃ Z, veh hx hy cp st en = Z := ⟨_, rfl⟩
  have cC : ∀ w, Calls Try.prog 11 #[.agg #[.int .i64 fx, .int .i64 fy, .int .i64 tx, .int .i64 ty, .int .i64 pe, .int .i64 pl, .int .i64 de, .int .i64 dl, .int .i64 ld, .int .i64 sv]] w fun r w' => r = .returned (.int .i64 C) ∧ Below w.heap.size w w' := fun w => by rw [← hC]; exact refCheck_any fx fy tx ty pe pl de dl ld sv w
  have cZ : ∀ w, Calls Try.prog 13 #[.agg #[.int .i64 hx, .int .i64 hy, .int .i64 cp, .int .i64 st, .int .i64 en]] w fun r w' => r = .returned (.int .i64 Z) ∧ Below w.heap.size w w' := fun w => by rw [← hZ]; exact refVehicle_any hx hy cp st en w
  by_cases h1 : C = 0
  · skip
    subst h1
    by_cases h2 : Z = 0
    · skip
      subst h2
      by_cases h3 : ld ≤ cp
      · skip
        have hc := (chk_iff fx fy tx ty pe pl de dl ld sv).1 hC
        have hz := (veh_iff hx hy cp st en).1 hZ
        obtain ⟨_, ⟨hok1, hok2⟩, _, hs1, hs2⟩ := hc
        obtain ⟨_, ⟨_, _⟩, ⟨ht1, ht2⟩, _, ht3⟩ := hz
        have hok1' := (okB_iff _ _).1 hok1
        have hok2' := (okB_iff _ _).1 hok2
        obtain ⟨D1, hD1⟩ : ∃ D, distV (hx, hy) (fx, fy) = D := ⟨_, rfl⟩
        obtain ⟨D2, hD2⟩ : ∃ D, distV (fx, fy) (tx, ty) = D := ⟨_, rfl⟩
        obtain ⟨D3, hD3⟩ : ∃ D, distV (tx, ty) (hx, hy) = D := ⟨_, rfl⟩
        have b1 := distV_bd (hx, hy) (fx, fy)
        have b2 := distV_bd (fx, fy) (tx, ty)
        have b3 := distV_bd (tx, ty) (hx, hy)
        rw [hD1] at b1
        rw [hD2] at b2
        rw [hD3] at b3
        obtain ⟨b1l, b1h⟩ := b1
        obtain ⟨b2l, b2h⟩ := b2
        obtain ⟨b3l, b3h⟩ := b3
        obtain ⟨A, hA⟩ : ∃ A, max (st + D1) pe = A := ⟨_, rfl⟩
        obtain ⟨E, hE⟩ : ∃ E, max (A + sv + D2) de = E := ⟨_, rfl⟩
        have eA : tA fx fy tx ty pe pl de dl ld sv hx hy cp st en = A := by unfold tA; rw [hD1, hA]
        have eB : tB fx fy tx ty pe pl de dl ld sv hx hy cp st en = E := by unfold tB; rw [eA, hD2, hE]
        have eH : tH fx fy tx ty pe pl de dl ld sv hx hy cp st en = E + sv + D3 := by unfold tH; rw [eB, hD3]
        have a0 : 0 ≤ A := by omega
        have e0 : 0 ≤ E := by omega
        have cD1 : ∀ w, Calls Try.prog 34 #[.agg #[.int .i64 hx, .int .i64 hy], .agg #[.int .i64 fx, .int .i64 fy]] w fun r w' => r = .returned (.int .i64 D1) ∧ Below w.heap.size w w' := fun w => by rw [← hD1]; exact refDist_any _ _ _ _ w
        have cD2 : ∀ w, Calls Try.prog 34 #[.agg #[.int .i64 fx, .int .i64 fy], .agg #[.int .i64 tx, .int .i64 ty]] w fun r w' => r = .returned (.int .i64 D2) ∧ Below w.heap.size w w' := fun w => by rw [← hD2]; exact refDist_any _ _ _ _ w
        have cD3 : ∀ w, Calls Try.prog 34 #[.agg #[.int .i64 tx, .int .i64 ty], .agg #[.int .i64 hx, .int .i64 hy]] w fun r w' => r = .returned (.int .i64 D3) ∧ Below w.heap.size w w' := fun w => by rw [← hD3]; exact refDist_any _ _ _ _ w
        by_cases hAl : A ≤ pl
        · skip
          by_cases hEl : E ≤ dl
          · skip
            by_cases hHl : E + sv + D3 ≤ en
            · have hn := Lib.hid (@alone_yes fx fy tx ty pe pl de dl ld sv hx hy cp st en ⟨hC, hZ, h3, by rw [eA]; exact hAl, by rw [eB]; exact hEl, by rw [eH]; exact hHl⟩)
              rw [eH] at hn
              have hA' : max (st + D1) pe = A := hA
              have hE' : max (A + sv + D2) de = E := hE
              clear hC hZ hD1 hD2 hD3 hA hE eA eB eH
              go_enter Try.func16, Try.ntmps16
              go_wp2_with fail
              generalize ((w.alloc (.cells #[.int .i64 fx, .int .i64 fy, .int .i64 tx, .int .i64 ty, .int .i64 pe, .int .i64 pl, .int .i64 de, .int .i64 dl, .int .i64 ld, .int .i64 sv] 27)).alloc (.cells #[.int .i64 hx, .int .i64 hy, .int .i64 cp, .int .i64 st, .int .i64 en] 29)) = w0 at *
              refine (cC _).mono ?_
              rintro e w' ⟨rfl, hb1⟩
              replace hP := hP.keep hb1 hP.inside
              replace hV := hV.keep hb1 hV.inside
              replace hB := hB.trans (hb1.mono hB.size)
              clear hb1
              try clear c0 c1 c2 c3 c4 c5 c6 c7 c8 c9 v0 v1 v2 v3 v4
              have c0 := hP.cell 0
              have c1 := hP.cell 1
              have c2 := hP.cell 2
              have c3 := hP.cell 3
              have c4 := hP.cell 4
              have c5 := hP.cell 5
              have c6 := hP.cell 6
              have c7 := hP.cell 7
              have c8 := hP.cell 8
              have c9 := hP.cell 9
              simp at c0 c1 c2 c3 c4 c5 c6 c7 c8 c9
              have v0 := hV.cell 0
              have v1 := hV.cell 1
              have v2 := hV.cell 2
              have v3 := hV.cell 3
              have v4 := hV.cell 4
              simp at v0 v1 v2 v3 v4
              go_wp2_with fail
              refine (cZ _).mono ?_
              rintro e w' ⟨rfl, hb1⟩
              replace hP := hP.keep hb1 hP.inside
              replace hV := hV.keep hb1 hV.inside
              replace hB := hB.trans (hb1.mono hB.size)
              clear hb1
              try clear c0 c1 c2 c3 c4 c5 c6 c7 c8 c9 v0 v1 v2 v3 v4
              have c0 := hP.cell 0
              have c1 := hP.cell 1
              have c2 := hP.cell 2
              have c3 := hP.cell 3
              have c4 := hP.cell 4
              have c5 := hP.cell 5
              have c6 := hP.cell 6
              have c7 := hP.cell 7
              have c8 := hP.cell 8
              have c9 := hP.cell 9
              simp at c0 c1 c2 c3 c4 c5 c6 c7 c8 c9
              have v0 := hV.cell 0
              have v1 := hV.cell 1
              have v2 := hV.cell 2
              have v3 := hV.cell 3
              have v4 := hV.cell 4
              simp at v0 v1 v2 v3 v4
              go_wp2_with fail
              generalize w' = w1 at *
              have kc0 := cell_regrown c0
              have kc1 := cell_regrown c1
              have kc2 := cell_regrown c2
              have kc3 := cell_regrown c3
              have kc4 := cell_regrown c4
              have kc5 := cell_regrown c5
              have kc6 := cell_regrown c6
              have kc7 := cell_regrown c7
              have kc8 := cell_regrown c8
              have kc9 := cell_regrown c9
              have kv0 := cell_regrown v0
              have kv1 := cell_regrown v1
              have kv2 := cell_regrown v2
              have kv3 := cell_regrown v3
              have kv4 := cell_regrown v4
              have kD := fun d os => Calls.regrown_of (cD1 (grow (redrawn w1 d) os))
              refine wp_region_quiet_below (by kernel_rfl) (by kernel_rfl) ?_
              repeat (go_big_quiet_step (with_reducible exact kD _ _))
              refine wpQuiet_nil ?_
              intro _ hw'
              obtain ⟨⟨dq, osq⟩, hw''⟩ := hw'
              subst hw''
              replace hB := hB.trans ((below_regrown w1 dq osq).mono hB.size)
              replace hV := hV.keep (below_regrown w1 dq osq) hV.inside
              replace hP := hP.keep (below_regrown w1 dq osq) hP.inside
              generalize grow (redrawn w1 dq) osq = w2 at *
              clear kD kc0 kc1 kc2 kc3 kc4 kc5 kc6 kc7 kc8 kc9 kv0 kv1 kv2 kv3 kv4 c0 c1 c2 c3 c4 c5 c6 c7 c8 c9 v0 v1 v2 v3 v4
              have c0 := hP.cell 0
              have c1 := hP.cell 1
              have c2 := hP.cell 2
              have c3 := hP.cell 3
              have c4 := hP.cell 4
              have c5 := hP.cell 5
              have c6 := hP.cell 6
              have c7 := hP.cell 7
              have c8 := hP.cell 8
              have c9 := hP.cell 9
              simp at c0 c1 c2 c3 c4 c5 c6 c7 c8 c9
              have v0 := hV.cell 0
              have v1 := hV.cell 1
              have v2 := hV.cell 2
              have v3 := hV.cell 3
              have v4 := hV.cell 4
              simp at v0 v1 v2 v3 v4
              go_wp2_with fail
              have kc0 := cell_regrown c0
              have kc1 := cell_regrown c1
              have kc2 := cell_regrown c2
              have kc3 := cell_regrown c3
              have kc4 := cell_regrown c4
              have kc5 := cell_regrown c5
              have kc6 := cell_regrown c6
              have kc7 := cell_regrown c7
              have kc8 := cell_regrown c8
              have kc9 := cell_regrown c9
              have kv0 := cell_regrown v0
              have kv1 := cell_regrown v1
              have kv2 := cell_regrown v2
              have kv3 := cell_regrown v3
              have kv4 := cell_regrown v4
              have kD := fun d os => Calls.regrown_of (cD2 (grow (redrawn w2 d) os))
              refine wp_region_quiet_below (by kernel_rfl) (by kernel_rfl) ?_
              repeat (go_big_quiet_step (with_reducible exact kD _ _))
              refine wpQuiet_nil ?_
              intro _ hw'
              obtain ⟨⟨dq, osq⟩, hw''⟩ := hw'
              subst hw''
              replace hB := hB.trans ((below_regrown w2 dq osq).mono hB.size)
              replace hV := hV.keep (below_regrown w2 dq osq) hV.inside
              replace hP := hP.keep (below_regrown w2 dq osq) hP.inside
              generalize grow (redrawn w2 dq) osq = w3 at *
              clear kD kc0 kc1 kc2 kc3 kc4 kc5 kc6 kc7 kc8 kc9 kv0 kv1 kv2 kv3 kv4 c0 c1 c2 c3 c4 c5 c6 c7 c8 c9 v0 v1 v2 v3 v4
              have c0 := hP.cell 0
              have c1 := hP.cell 1
              have c2 := hP.cell 2
              have c3 := hP.cell 3
              have c4 := hP.cell 4
              have c5 := hP.cell 5
              have c6 := hP.cell 6
              have c7 := hP.cell 7
              have c8 := hP.cell 8
              have c9 := hP.cell 9
              simp at c0 c1 c2 c3 c4 c5 c6 c7 c8 c9
              have v0 := hV.cell 0
              have v1 := hV.cell 1
              have v2 := hV.cell 2
              have v3 := hV.cell 3
              have v4 := hV.cell 4
              simp at v0 v1 v2 v3 v4
              go_wp2_with fail
              have kc0 := cell_regrown c0
              have kc1 := cell_regrown c1
              have kc2 := cell_regrown c2
              have kc3 := cell_regrown c3
              have kc4 := cell_regrown c4
              have kc5 := cell_regrown c5
              have kc6 := cell_regrown c6
              have kc7 := cell_regrown c7
              have kc8 := cell_regrown c8
              have kc9 := cell_regrown c9
              have kv0 := cell_regrown v0
              have kv1 := cell_regrown v1
              have kv2 := cell_regrown v2
              have kv3 := cell_regrown v3
              have kv4 := cell_regrown v4
              have kD := fun d os => Calls.regrown_of (cD3 (grow (redrawn w3 d) os))
              refine wp_region_quiet_below (by kernel_rfl) (by kernel_rfl) ?_
              repeat (go_big_quiet_step (with_reducible exact kD _ _))
              refine wpQuiet_nil ?_
              intro _ hw'
              obtain ⟨⟨dq, osq⟩, hw''⟩ := hw'
              subst hw''
              replace hB := hB.trans ((below_regrown w3 dq osq).mono hB.size)
              replace hV := hV.keep (below_regrown w3 dq osq) hV.inside
              replace hP := hP.keep (below_regrown w3 dq osq) hP.inside
              generalize grow (redrawn w3 dq) osq = w4 at *
              clear kD kc0 kc1 kc2 kc3 kc4 kc5 kc6 kc7 kc8 kc9 kv0 kv1 kv2 kv3 kv4 c0 c1 c2 c3 c4 c5 c6 c7 c8 c9 v0 v1 v2 v3 v4
              have c0 := hP.cell 0
              have c1 := hP.cell 1
              have c2 := hP.cell 2
              have c3 := hP.cell 3
              have c4 := hP.cell 4
              have c5 := hP.cell 5
              have c6 := hP.cell 6
              have c7 := hP.cell 7
              have c8 := hP.cell 8
              have c9 := hP.cell 9
              simp at c0 c1 c2 c3 c4 c5 c6 c7 c8 c9
              have v0 := hV.cell 0
              have v1 := hV.cell 1
              have v2 := hV.cell 2
              have v3 := hV.cell 3
              have v4 := hV.cell 4
              simp at v0 v1 v2 v3 v4
              go_wp2
              refine bodyPost_ret (v := .tuple #[.int .i64 (E + sv + D3), .bool true]) (by simp [results, Try.results16, go_sem]) rfl ?_
              exact ⟨ret_ib2 hn.out, hB⟩
            · have hn := Lib.hid (@alone_no fx fy tx ty pe pl de dl ld sv hx hy cp st en (by rw [eA, eB, eH]; exact fun h => hHl h.2.2.2.2.2))
              have hA' : max (st + D1) pe = A := hA
              have hE' : max (A + sv + D2) de = E := hE
              clear hC hZ hD1 hD2 hD3 hA hE eA eB eH
              go_enter Try.func16, Try.ntmps16
              go_wp2_with fail
              generalize ((w.alloc (.cells #[.int .i64 fx, .int .i64 fy, .int .i64 tx, .int .i64 ty, .int .i64 pe, .int .i64 pl, .int .i64 de, .int .i64 dl, .int .i64 ld, .int .i64 sv] 27)).alloc (.cells #[.int .i64 hx, .int .i64 hy, .int .i64 cp, .int .i64 st, .int .i64 en] 29)) = w0 at *
              refine (cC _).mono ?_
              rintro e w' ⟨rfl, hb1⟩
              replace hP := hP.keep hb1 hP.inside
              replace hV := hV.keep hb1 hV.inside
              replace hB := hB.trans (hb1.mono hB.size)
              clear hb1
              try clear c0 c1 c2 c3 c4 c5 c6 c7 c8 c9 v0 v1 v2 v3 v4
              have c0 := hP.cell 0
              have c1 := hP.cell 1
              have c2 := hP.cell 2
              have c3 := hP.cell 3
              have c4 := hP.cell 4
              have c5 := hP.cell 5
              have c6 := hP.cell 6
              have c7 := hP.cell 7
              have c8 := hP.cell 8
              have c9 := hP.cell 9
              simp at c0 c1 c2 c3 c4 c5 c6 c7 c8 c9
              have v0 := hV.cell 0
              have v1 := hV.cell 1
              have v2 := hV.cell 2
              have v3 := hV.cell 3
              have v4 := hV.cell 4
              simp at v0 v1 v2 v3 v4
              go_wp2_with fail
              refine (cZ _).mono ?_
              rintro e w' ⟨rfl, hb1⟩
              replace hP := hP.keep hb1 hP.inside
              replace hV := hV.keep hb1 hV.inside
              replace hB := hB.trans (hb1.mono hB.size)
              clear hb1
              try clear c0 c1 c2 c3 c4 c5 c6 c7 c8 c9 v0 v1 v2 v3 v4
              have c0 := hP.cell 0
              have c1 := hP.cell 1
              have c2 := hP.cell 2
              have c3 := hP.cell 3
              have c4 := hP.cell 4
              have c5 := hP.cell 5
              have c6 := hP.cell 6
              have c7 := hP.cell 7
              have c8 := hP.cell 8
              have c9 := hP.cell 9
              simp at c0 c1 c2 c3 c4 c5 c6 c7 c8 c9
              have v0 := hV.cell 0
              have v1 := hV.cell 1
              have v2 := hV.cell 2
              have v3 := hV.cell 3
              have v4 := hV.cell 4
              simp at v0 v1 v2 v3 v4
              go_wp2_with fail
              generalize w' = w1 at *
              have kc0 := cell_regrown c0
              have kc1 := cell_regrown c1
              have kc2 := cell_regrown c2
              have kc3 := cell_regrown c3
              have kc4 := cell_regrown c4
              have kc5 := cell_regrown c5
              have kc6 := cell_regrown c6
              have kc7 := cell_regrown c7
              have kc8 := cell_regrown c8
              have kc9 := cell_regrown c9
              have kv0 := cell_regrown v0
              have kv1 := cell_regrown v1
              have kv2 := cell_regrown v2
              have kv3 := cell_regrown v3
              have kv4 := cell_regrown v4
              have kD := fun d os => Calls.regrown_of (cD1 (grow (redrawn w1 d) os))
              refine wp_region_quiet_below (by kernel_rfl) (by kernel_rfl) ?_
              repeat (go_big_quiet_step (with_reducible exact kD _ _))
              refine wpQuiet_nil ?_
              intro _ hw'
              obtain ⟨⟨dq, osq⟩, hw''⟩ := hw'
              subst hw''
              replace hB := hB.trans ((below_regrown w1 dq osq).mono hB.size)
              replace hV := hV.keep (below_regrown w1 dq osq) hV.inside
              replace hP := hP.keep (below_regrown w1 dq osq) hP.inside
              generalize grow (redrawn w1 dq) osq = w2 at *
              clear kD kc0 kc1 kc2 kc3 kc4 kc5 kc6 kc7 kc8 kc9 kv0 kv1 kv2 kv3 kv4 c0 c1 c2 c3 c4 c5 c6 c7 c8 c9 v0 v1 v2 v3 v4
              have c0 := hP.cell 0
              have c1 := hP.cell 1
              have c2 := hP.cell 2
              have c3 := hP.cell 3
              have c4 := hP.cell 4
              have c5 := hP.cell 5
              have c6 := hP.cell 6
              have c7 := hP.cell 7
              have c8 := hP.cell 8
              have c9 := hP.cell 9
              simp at c0 c1 c2 c3 c4 c5 c6 c7 c8 c9
              have v0 := hV.cell 0
              have v1 := hV.cell 1
              have v2 := hV.cell 2
              have v3 := hV.cell 3
              have v4 := hV.cell 4
              simp at v0 v1 v2 v3 v4
              go_wp2_with fail
              have kc0 := cell_regrown c0
              have kc1 := cell_regrown c1
              have kc2 := cell_regrown c2
              have kc3 := cell_regrown c3
              have kc4 := cell_regrown c4
              have kc5 := cell_regrown c5
              have kc6 := cell_regrown c6
              have kc7 := cell_regrown c7
              have kc8 := cell_regrown c8
              have kc9 := cell_regrown c9
              have kv0 := cell_regrown v0
              have kv1 := cell_regrown v1
              have kv2 := cell_regrown v2
              have kv3 := cell_regrown v3
              have kv4 := cell_regrown v4
              have kD := fun d os => Calls.regrown_of (cD2 (grow (redrawn w2 d) os))
              refine wp_region_quiet_below (by kernel_rfl) (by kernel_rfl) ?_
              repeat (go_big_quiet_step (with_reducible exact kD _ _))
              refine wpQuiet_nil ?_
              intro _ hw'
              obtain ⟨⟨dq, osq⟩, hw''⟩ := hw'
              subst hw''
              replace hB := hB.trans ((below_regrown w2 dq osq).mono hB.size)
              replace hV := hV.keep (below_regrown w2 dq osq) hV.inside
              replace hP := hP.keep (below_regrown w2 dq osq) hP.inside
              generalize grow (redrawn w2 dq) osq = w3 at *
              clear kD kc0 kc1 kc2 kc3 kc4 kc5 kc6 kc7 kc8 kc9 kv0 kv1 kv2 kv3 kv4 c0 c1 c2 c3 c4 c5 c6 c7 c8 c9 v0 v1 v2 v3 v4
              have c0 := hP.cell 0
              have c1 := hP.cell 1
              have c2 := hP.cell 2
              have c3 := hP.cell 3
              have c4 := hP.cell 4
              have c5 := hP.cell 5
              have c6 := hP.cell 6
              have c7 := hP.cell 7
              have c8 := hP.cell 8
              have c9 := hP.cell 9
              simp at c0 c1 c2 c3 c4 c5 c6 c7 c8 c9
              have v0 := hV.cell 0
              have v1 := hV.cell 1
              have v2 := hV.cell 2
              have v3 := hV.cell 3
              have v4 := hV.cell 4
              simp at v0 v1 v2 v3 v4
              go_wp2_with fail
              have kc0 := cell_regrown c0
              have kc1 := cell_regrown c1
              have kc2 := cell_regrown c2
              have kc3 := cell_regrown c3
              have kc4 := cell_regrown c4
              have kc5 := cell_regrown c5
              have kc6 := cell_regrown c6
              have kc7 := cell_regrown c7
              have kc8 := cell_regrown c8
              have kc9 := cell_regrown c9
              have kv0 := cell_regrown v0
              have kv1 := cell_regrown v1
              have kv2 := cell_regrown v2
              have kv3 := cell_regrown v3
              have kv4 := cell_regrown v4
              have kD := fun d os => Calls.regrown_of (cD3 (grow (redrawn w3 d) os))
              refine wp_region_quiet_below (by kernel_rfl) (by kernel_rfl) ?_
              repeat (go_big_quiet_step (with_reducible exact kD _ _))
              refine wpQuiet_nil ?_
              intro _ hw'
              obtain ⟨⟨dq, osq⟩, hw''⟩ := hw'
              subst hw''
              replace hB := hB.trans ((below_regrown w3 dq osq).mono hB.size)
              replace hV := hV.keep (below_regrown w3 dq osq) hV.inside
              replace hP := hP.keep (below_regrown w3 dq osq) hP.inside
              generalize grow (redrawn w3 dq) osq = w4 at *
              clear kD kc0 kc1 kc2 kc3 kc4 kc5 kc6 kc7 kc8 kc9 kv0 kv1 kv2 kv3 kv4 c0 c1 c2 c3 c4 c5 c6 c7 c8 c9 v0 v1 v2 v3 v4
              have c0 := hP.cell 0
              have c1 := hP.cell 1
              have c2 := hP.cell 2
              have c3 := hP.cell 3
              have c4 := hP.cell 4
              have c5 := hP.cell 5
              have c6 := hP.cell 6
              have c7 := hP.cell 7
              have c8 := hP.cell 8
              have c9 := hP.cell 9
              simp at c0 c1 c2 c3 c4 c5 c6 c7 c8 c9
              have v0 := hV.cell 0
              have v1 := hV.cell 1
              have v2 := hV.cell 2
              have v3 := hV.cell 3
              have v4 := hV.cell 4
              simp at v0 v1 v2 v3 v4
              go_wp2
              refine bodyPost_ret (v := .tuple #[.int .i64 0, .bool false]) (by simp [results, Try.results16, go_sem]) rfl ?_
              exact ⟨ret_ib2 hn.out, hB⟩
          · have hn := Lib.hid (@alone_no fx fy tx ty pe pl de dl ld sv hx hy cp st en (by rw [eA, eB]; exact fun h => hEl h.2.2.2.2.1))
            have hA' : max (st + D1) pe = A := hA
            have hE' : max (A + sv + D2) de = E := hE
            clear hC hZ hD1 hD2 hD3 hA hE eA eB eH
            go_enter Try.func16, Try.ntmps16
            go_wp2_with fail
            generalize ((w.alloc (.cells #[.int .i64 fx, .int .i64 fy, .int .i64 tx, .int .i64 ty, .int .i64 pe, .int .i64 pl, .int .i64 de, .int .i64 dl, .int .i64 ld, .int .i64 sv] 27)).alloc (.cells #[.int .i64 hx, .int .i64 hy, .int .i64 cp, .int .i64 st, .int .i64 en] 29)) = w0 at *
            refine (cC _).mono ?_
            rintro e w' ⟨rfl, hb1⟩
            replace hP := hP.keep hb1 hP.inside
            replace hV := hV.keep hb1 hV.inside
            replace hB := hB.trans (hb1.mono hB.size)
            clear hb1
            try clear c0 c1 c2 c3 c4 c5 c6 c7 c8 c9 v0 v1 v2 v3 v4
            have c0 := hP.cell 0
            have c1 := hP.cell 1
            have c2 := hP.cell 2
            have c3 := hP.cell 3
            have c4 := hP.cell 4
            have c5 := hP.cell 5
            have c6 := hP.cell 6
            have c7 := hP.cell 7
            have c8 := hP.cell 8
            have c9 := hP.cell 9
            simp at c0 c1 c2 c3 c4 c5 c6 c7 c8 c9
            have v0 := hV.cell 0
            have v1 := hV.cell 1
            have v2 := hV.cell 2
            have v3 := hV.cell 3
            have v4 := hV.cell 4
            simp at v0 v1 v2 v3 v4
            go_wp2_with fail
            refine (cZ _).mono ?_
            rintro e w' ⟨rfl, hb1⟩
            replace hP := hP.keep hb1 hP.inside
            replace hV := hV.keep hb1 hV.inside
            replace hB := hB.trans (hb1.mono hB.size)
            clear hb1
            try clear c0 c1 c2 c3 c4 c5 c6 c7 c8 c9 v0 v1 v2 v3 v4
            have c0 := hP.cell 0
            have c1 := hP.cell 1
            have c2 := hP.cell 2
            have c3 := hP.cell 3
            have c4 := hP.cell 4
            have c5 := hP.cell 5
            have c6 := hP.cell 6
            have c7 := hP.cell 7
            have c8 := hP.cell 8
            have c9 := hP.cell 9
            simp at c0 c1 c2 c3 c4 c5 c6 c7 c8 c9
            have v0 := hV.cell 0
            have v1 := hV.cell 1
            have v2 := hV.cell 2
            have v3 := hV.cell 3
            have v4 := hV.cell 4
            simp at v0 v1 v2 v3 v4
            go_wp2_with fail
            generalize w' = w1 at *
            have kc0 := cell_regrown c0
            have kc1 := cell_regrown c1
            have kc2 := cell_regrown c2
            have kc3 := cell_regrown c3
            have kc4 := cell_regrown c4
            have kc5 := cell_regrown c5
            have kc6 := cell_regrown c6
            have kc7 := cell_regrown c7
            have kc8 := cell_regrown c8
            have kc9 := cell_regrown c9
            have kv0 := cell_regrown v0
            have kv1 := cell_regrown v1
            have kv2 := cell_regrown v2
            have kv3 := cell_regrown v3
            have kv4 := cell_regrown v4
            have kD := fun d os => Calls.regrown_of (cD1 (grow (redrawn w1 d) os))
            refine wp_region_quiet_below (by kernel_rfl) (by kernel_rfl) ?_
            repeat (go_big_quiet_step (with_reducible exact kD _ _))
            refine wpQuiet_nil ?_
            intro _ hw'
            obtain ⟨⟨dq, osq⟩, hw''⟩ := hw'
            subst hw''
            replace hB := hB.trans ((below_regrown w1 dq osq).mono hB.size)
            replace hV := hV.keep (below_regrown w1 dq osq) hV.inside
            replace hP := hP.keep (below_regrown w1 dq osq) hP.inside
            generalize grow (redrawn w1 dq) osq = w2 at *
            clear kD kc0 kc1 kc2 kc3 kc4 kc5 kc6 kc7 kc8 kc9 kv0 kv1 kv2 kv3 kv4 c0 c1 c2 c3 c4 c5 c6 c7 c8 c9 v0 v1 v2 v3 v4
            have c0 := hP.cell 0
            have c1 := hP.cell 1
            have c2 := hP.cell 2
            have c3 := hP.cell 3
            have c4 := hP.cell 4
            have c5 := hP.cell 5
            have c6 := hP.cell 6
            have c7 := hP.cell 7
            have c8 := hP.cell 8
            have c9 := hP.cell 9
            simp at c0 c1 c2 c3 c4 c5 c6 c7 c8 c9
            have v0 := hV.cell 0
            have v1 := hV.cell 1
            have v2 := hV.cell 2
            have v3 := hV.cell 3
            have v4 := hV.cell 4
            simp at v0 v1 v2 v3 v4
            go_wp2_with fail
            have kc0 := cell_regrown c0
            have kc1 := cell_regrown c1
            have kc2 := cell_regrown c2
            have kc3 := cell_regrown c3
            have kc4 := cell_regrown c4
            have kc5 := cell_regrown c5
            have kc6 := cell_regrown c6
            have kc7 := cell_regrown c7
            have kc8 := cell_regrown c8
            have kc9 := cell_regrown c9
            have kv0 := cell_regrown v0
            have kv1 := cell_regrown v1
            have kv2 := cell_regrown v2
            have kv3 := cell_regrown v3
            have kv4 := cell_regrown v4
            have kD := fun d os => Calls.regrown_of (cD2 (grow (redrawn w2 d) os))
            refine wp_region_quiet_below (by kernel_rfl) (by kernel_rfl) ?_
            repeat (go_big_quiet_step (with_reducible exact kD _ _))
            refine wpQuiet_nil ?_
            intro _ hw'
            obtain ⟨⟨dq, osq⟩, hw''⟩ := hw'
            subst hw''
            replace hB := hB.trans ((below_regrown w2 dq osq).mono hB.size)
            replace hV := hV.keep (below_regrown w2 dq osq) hV.inside
            replace hP := hP.keep (below_regrown w2 dq osq) hP.inside
            generalize grow (redrawn w2 dq) osq = w3 at *
            clear kD kc0 kc1 kc2 kc3 kc4 kc5 kc6 kc7 kc8 kc9 kv0 kv1 kv2 kv3 kv4 c0 c1 c2 c3 c4 c5 c6 c7 c8 c9 v0 v1 v2 v3 v4
            have c0 := hP.cell 0
            have c1 := hP.cell 1
            have c2 := hP.cell 2
            have c3 := hP.cell 3
            have c4 := hP.cell 4
            have c5 := hP.cell 5
            have c6 := hP.cell 6
            have c7 := hP.cell 7
            have c8 := hP.cell 8
            have c9 := hP.cell 9
            simp at c0 c1 c2 c3 c4 c5 c6 c7 c8 c9
            have v0 := hV.cell 0
            have v1 := hV.cell 1
            have v2 := hV.cell 2
            have v3 := hV.cell 3
            have v4 := hV.cell 4
            simp at v0 v1 v2 v3 v4
            go_wp2
            refine bodyPost_ret (v := .tuple #[.int .i64 0, .bool false]) (by simp [results, Try.results16, go_sem]) rfl ?_
            exact ⟨ret_ib2 hn.out, hB⟩
        · have hn := Lib.hid (@alone_no fx fy tx ty pe pl de dl ld sv hx hy cp st en (by rw [eA]; exact fun h => hAl h.2.2.2.1))
          have hA' : max (st + D1) pe = A := hA
          have hE' : max (A + sv + D2) de = E := hE
          clear hC hZ hD1 hD2 hD3 hA hE eA eB eH
          go_enter Try.func16, Try.ntmps16
          go_wp2_with fail
          generalize ((w.alloc (.cells #[.int .i64 fx, .int .i64 fy, .int .i64 tx, .int .i64 ty, .int .i64 pe, .int .i64 pl, .int .i64 de, .int .i64 dl, .int .i64 ld, .int .i64 sv] 27)).alloc (.cells #[.int .i64 hx, .int .i64 hy, .int .i64 cp, .int .i64 st, .int .i64 en] 29)) = w0 at *
          refine (cC _).mono ?_
          rintro e w' ⟨rfl, hb1⟩
          replace hP := hP.keep hb1 hP.inside
          replace hV := hV.keep hb1 hV.inside
          replace hB := hB.trans (hb1.mono hB.size)
          clear hb1
          try clear c0 c1 c2 c3 c4 c5 c6 c7 c8 c9 v0 v1 v2 v3 v4
          have c0 := hP.cell 0
          have c1 := hP.cell 1
          have c2 := hP.cell 2
          have c3 := hP.cell 3
          have c4 := hP.cell 4
          have c5 := hP.cell 5
          have c6 := hP.cell 6
          have c7 := hP.cell 7
          have c8 := hP.cell 8
          have c9 := hP.cell 9
          simp at c0 c1 c2 c3 c4 c5 c6 c7 c8 c9
          have v0 := hV.cell 0
          have v1 := hV.cell 1
          have v2 := hV.cell 2
          have v3 := hV.cell 3
          have v4 := hV.cell 4
          simp at v0 v1 v2 v3 v4
          go_wp2_with fail
          refine (cZ _).mono ?_
          rintro e w' ⟨rfl, hb1⟩
          replace hP := hP.keep hb1 hP.inside
          replace hV := hV.keep hb1 hV.inside
          replace hB := hB.trans (hb1.mono hB.size)
          clear hb1
          try clear c0 c1 c2 c3 c4 c5 c6 c7 c8 c9 v0 v1 v2 v3 v4
          have c0 := hP.cell 0
          have c1 := hP.cell 1
          have c2 := hP.cell 2
          have c3 := hP.cell 3
          have c4 := hP.cell 4
          have c5 := hP.cell 5
          have c6 := hP.cell 6
          have c7 := hP.cell 7
          have c8 := hP.cell 8
          have c9 := hP.cell 9
          simp at c0 c1 c2 c3 c4 c5 c6 c7 c8 c9
          have v0 := hV.cell 0
          have v1 := hV.cell 1
          have v2 := hV.cell 2
          have v3 := hV.cell 3
          have v4 := hV.cell 4
          simp at v0 v1 v2 v3 v4
          go_wp2_with fail
          generalize w' = w1 at *
          have kc0 := cell_regrown c0
          have kc1 := cell_regrown c1
          have kc2 := cell_regrown c2
          have kc3 := cell_regrown c3
          have kc4 := cell_regrown c4
          have kc5 := cell_regrown c5
          have kc6 := cell_regrown c6
          have kc7 := cell_regrown c7
          have kc8 := cell_regrown c8
          have kc9 := cell_regrown c9
          have kv0 := cell_regrown v0
          have kv1 := cell_regrown v1
          have kv2 := cell_regrown v2
          have kv3 := cell_regrown v3
          have kv4 := cell_regrown v4
          have kD := fun d os => Calls.regrown_of (cD1 (grow (redrawn w1 d) os))
          refine wp_region_quiet_below (by kernel_rfl) (by kernel_rfl) ?_
          repeat (go_big_quiet_step (with_reducible exact kD _ _))
          refine wpQuiet_nil ?_
          intro _ hw'
          obtain ⟨⟨dq, osq⟩, hw''⟩ := hw'
          subst hw''
          replace hB := hB.trans ((below_regrown w1 dq osq).mono hB.size)
          replace hV := hV.keep (below_regrown w1 dq osq) hV.inside
          replace hP := hP.keep (below_regrown w1 dq osq) hP.inside
          generalize grow (redrawn w1 dq) osq = w2 at *
          clear kD kc0 kc1 kc2 kc3 kc4 kc5 kc6 kc7 kc8 kc9 kv0 kv1 kv2 kv3 kv4 c0 c1 c2 c3 c4 c5 c6 c7 c8 c9 v0 v1 v2 v3 v4
          have c0 := hP.cell 0
          have c1 := hP.cell 1
          have c2 := hP.cell 2
          have c3 := hP.cell 3
          have c4 := hP.cell 4
          have c5 := hP.cell 5
          have c6 := hP.cell 6
          have c7 := hP.cell 7
          have c8 := hP.cell 8
          have c9 := hP.cell 9
          simp at c0 c1 c2 c3 c4 c5 c6 c7 c8 c9
          have v0 := hV.cell 0
          have v1 := hV.cell 1
          have v2 := hV.cell 2
          have v3 := hV.cell 3
          have v4 := hV.cell 4
          simp at v0 v1 v2 v3 v4
          go_wp2
          refine bodyPost_ret (v := .tuple #[.int .i64 0, .bool false]) (by simp [results, Try.results16, go_sem]) rfl ?_
          exact ⟨ret_ib2 hn.out, hB⟩
      · have hn := Lib.hid (@alone_no fx fy tx ty pe pl de dl ld sv hx hy cp st en (fun h => h3 h.2.2.1))
        clear hC hZ
        go_enter Try.func16, Try.ntmps16
        go_wp2_with fail
        generalize ((w.alloc (.cells #[.int .i64 fx, .int .i64 fy, .int .i64 tx, .int .i64 ty, .int .i64 pe, .int .i64 pl, .int .i64 de, .int .i64 dl, .int .i64 ld, .int .i64 sv] 27)).alloc (.cells #[.int .i64 hx, .int .i64 hy, .int .i64 cp, .int .i64 st, .int .i64 en] 29)) = w0 at *
        refine (cC _).mono ?_
        rintro e w' ⟨rfl, hb1⟩
        replace hP := hP.keep hb1 hP.inside
        replace hV := hV.keep hb1 hV.inside
        replace hB := hB.trans (hb1.mono hB.size)
        clear hb1
        try clear c0 c1 c2 c3 c4 c5 c6 c7 c8 c9 v0 v1 v2 v3 v4
        have c0 := hP.cell 0
        have c1 := hP.cell 1
        have c2 := hP.cell 2
        have c3 := hP.cell 3
        have c4 := hP.cell 4
        have c5 := hP.cell 5
        have c6 := hP.cell 6
        have c7 := hP.cell 7
        have c8 := hP.cell 8
        have c9 := hP.cell 9
        simp at c0 c1 c2 c3 c4 c5 c6 c7 c8 c9
        have v0 := hV.cell 0
        have v1 := hV.cell 1
        have v2 := hV.cell 2
        have v3 := hV.cell 3
        have v4 := hV.cell 4
        simp at v0 v1 v2 v3 v4
        go_wp2_with fail
        refine (cZ _).mono ?_
        rintro e w' ⟨rfl, hb1⟩
        replace hP := hP.keep hb1 hP.inside
        replace hV := hV.keep hb1 hV.inside
        replace hB := hB.trans (hb1.mono hB.size)
        clear hb1
        try clear c0 c1 c2 c3 c4 c5 c6 c7 c8 c9 v0 v1 v2 v3 v4
        have c0 := hP.cell 0
        have c1 := hP.cell 1
        have c2 := hP.cell 2
        have c3 := hP.cell 3
        have c4 := hP.cell 4
        have c5 := hP.cell 5
        have c6 := hP.cell 6
        have c7 := hP.cell 7
        have c8 := hP.cell 8
        have c9 := hP.cell 9
        simp at c0 c1 c2 c3 c4 c5 c6 c7 c8 c9
        have v0 := hV.cell 0
        have v1 := hV.cell 1
        have v2 := hV.cell 2
        have v3 := hV.cell 3
        have v4 := hV.cell 4
        simp at v0 v1 v2 v3 v4
        go_wp2
        refine bodyPost_ret (v := .tuple #[.int .i64 0, .bool false]) (by simp [results, Try.results16, go_sem]) rfl ?_
        exact ⟨ret_ib2 hn.out, hB⟩
    · have hn := Lib.hid (@alone_no fx fy tx ty pe pl de dl ld sv hx hy cp st en (by rw [hZ]; exact fun h => h2 h.2.1))
      clear hC hZ
      go_enter Try.func16, Try.ntmps16
      go_wp2_with fail
      generalize ((w.alloc (.cells #[.int .i64 fx, .int .i64 fy, .int .i64 tx, .int .i64 ty, .int .i64 pe, .int .i64 pl, .int .i64 de, .int .i64 dl, .int .i64 ld, .int .i64 sv] 27)).alloc (.cells #[.int .i64 hx, .int .i64 hy, .int .i64 cp, .int .i64 st, .int .i64 en] 29)) = w0 at *
      refine (cC _).mono ?_
      rintro e w' ⟨rfl, hb1⟩
      replace hP := hP.keep hb1 hP.inside
      replace hV := hV.keep hb1 hV.inside
      replace hB := hB.trans (hb1.mono hB.size)
      clear hb1
      try clear c0 c1 c2 c3 c4 c5 c6 c7 c8 c9 v0 v1 v2 v3 v4
      have c0 := hP.cell 0
      have c1 := hP.cell 1
      have c2 := hP.cell 2
      have c3 := hP.cell 3
      have c4 := hP.cell 4
      have c5 := hP.cell 5
      have c6 := hP.cell 6
      have c7 := hP.cell 7
      have c8 := hP.cell 8
      have c9 := hP.cell 9
      simp at c0 c1 c2 c3 c4 c5 c6 c7 c8 c9
      have v0 := hV.cell 0
      have v1 := hV.cell 1
      have v2 := hV.cell 2
      have v3 := hV.cell 3
      have v4 := hV.cell 4
      simp at v0 v1 v2 v3 v4
      go_wp2_with fail
      refine (cZ _).mono ?_
      rintro e w' ⟨rfl, hb1⟩
      replace hP := hP.keep hb1 hP.inside
      replace hV := hV.keep hb1 hV.inside
      replace hB := hB.trans (hb1.mono hB.size)
      clear hb1
      try clear c0 c1 c2 c3 c4 c5 c6 c7 c8 c9 v0 v1 v2 v3 v4
      have c0 := hP.cell 0
      have c1 := hP.cell 1
      have c2 := hP.cell 2
      have c3 := hP.cell 3
      have c4 := hP.cell 4
      have c5 := hP.cell 5
      have c6 := hP.cell 6
      have c7 := hP.cell 7
      have c8 := hP.cell 8
      have c9 := hP.cell 9
      simp at c0 c1 c2 c3 c4 c5 c6 c7 c8 c9
      have v0 := hV.cell 0
      have v1 := hV.cell 1
      have v2 := hV.cell 2
      have v3 := hV.cell 3
      have v4 := hV.cell 4
      simp at v0 v1 v2 v3 v4
      go_wp2
      refine bodyPost_ret (v := .tuple #[.int .i64 0, .bool false]) (by simp [results, Try.results16, go_sem]) rfl ?_
      exact ⟨ret_ib2 hn.out, hB⟩
  · have hn := Lib.hid (@alone_no fx fy tx ty pe pl de dl ld sv hx hy cp st en (by rw [hC]; exact fun h => h1 h.1))
    clear hC hZ
    go_enter Try.func16, Try.ntmps16
    go_wp2_with fail
    generalize ((w.alloc (.cells #[.int .i64 fx, .int .i64 fy, .int .i64 tx, .int .i64 ty, .int .i64 pe, .int .i64 pl, .int .i64 de, .int .i64 dl, .int .i64 ld, .int .i64 sv] 27)).alloc (.cells #[.int .i64 hx, .int .i64 hy, .int .i64 cp, .int .i64 st, .int .i64 en] 29)) = w0 at *
    refine (cC _).mono ?_
    rintro e w' ⟨rfl, hb1⟩
    replace hP := hP.keep hb1 hP.inside
    replace hV := hV.keep hb1 hV.inside
    replace hB := hB.trans (hb1.mono hB.size)
    clear hb1
    try clear c0 c1 c2 c3 c4 c5 c6 c7 c8 c9 v0 v1 v2 v3 v4
    have c0 := hP.cell 0
    have c1 := hP.cell 1
    have c2 := hP.cell 2
    have c3 := hP.cell 3
    have c4 := hP.cell 4
    have c5 := hP.cell 5
    have c6 := hP.cell 6
    have c7 := hP.cell 7
    have c8 := hP.cell 8
    have c9 := hP.cell 9
    simp at c0 c1 c2 c3 c4 c5 c6 c7 c8 c9
    have v0 := hV.cell 0
    have v1 := hV.cell 1
    have v2 := hV.cell 2
    have v3 := hV.cell 3
    have v4 := hV.cell 4
    simp at v0 v1 v2 v3 v4
    go_wp2
    refine bodyPost_ret (v := .tuple #[.int .i64 0, .bool false]) (by simp [results, Try.results16, go_sem]) rfl ?_
    exact ⟨ret_ib2 hn.out, hB⟩

end Go.Proofs.Ytcdgfjfomiokmaa.Order

import Derived.Test.YtfoflfeaegfnnaaPkSlackServe
import Derived.Test.YtfoflfeaegfnnaaPkSlackMath2
import Derived.Test.YtfoflfeaegfnnaaPkSlackFloat2
import Derived.Test.YtfoflfeaegfnnaaPkPlaceDist

/-
  The contract of package slack's push.
-/
namespace Go.Proofs.Ytfoflfeaegfnnaa.Slack
open Go.RowKit Go.Sort Go.Proofs.Ytfoflfeaegfnnaa.Mem Go.Proofs.Ytfoflfeaegfnnaa.Route Go.Proofs.Ytfoflfeaegfnnaa.When Go.Proofs.Ytfoflfeaegfnnaa.Tail
set_option linter.unusedVariables false

/-- All is gone, home too. -/
def PushedAt (W : World) (v : Vh) (l : List (Int × Int)) (t : List Rq) (i by_ : Int) (B g M c : Nat) : Prop :=
  ∃ rows, Own W B g M c rows ∧ rows.take l.length = rowB (sp0 v) (pairs (visL t l) i by_) ∧ ∃ q, rows[l.length]? = some q ∧ q.ar = arV (endB (sp0 v) (pairs (visL t l) i by_)) (homeV v)
def PushSt (W : World) (v : Vh) (l : List (Int × Int)) (t : List Rq) (i by_ : Int) (B g M c : Nat) (ok : Bool) (k : Nat) : Prop :=
  (ok = false → fromB v l t i by_ = false) ∧ (ok = true → (k ≤ l.length ∧ okK v l t i by_ k = true ∧ Own W B g M c (rowK v l t i by_ (T0 v l t) k)) ∨ (k = l.length + 1 ∧ fromB v l t i by_ = true ∧ PushedAt W v l t i by_ B g M c))
theorem wait_home {x : Vi} (h : Okv x) (R : Int) : Window.waitB x.we x.wl R = decide (R ≤ x.wl) := wait_okv h R

theorem push_next {v : Vh} {l : List (Int × Int)} {t : List Rq} (he : errT v l t = 0) {W : World} {B g M c i k : Nat} {by_ A : Int} (hik : i + 1 ≤ k) (hkn : k ≤ l.length) (hok : okK v l t i by_ k = true) (hA : arV (endK v l t i by_ k) (visN v t l k) = A)
    (hO : Own W B g M c ((rowK v l t i by_ (T0 v l t) k).set k ⟨A, Window.waitV (visN v t l k).we (visN v t l k).wl A, Window.waitV (visN v t l k).we (visN v t l k).wl A + (visN v t l k).sv⟩)) : PushSt W v l t i by_ B g M c (decide (A ≤ (visN v t l k).wl)) (k + 1) := by
  have hf := fine0_of (errT_zero.1 he).1
  have hx := visN_okv hf k
  rcases Nat.lt_or_ge k l.length with hlt | hge
  · have hb0 : bmp (i : Int) by_ k = 0 := bmp_no (by omega)
    have e0 : beB (endK v l t i by_ k) (visN v t l k) 0 = max A (visN v t l k).we := by unfold beB; rw [hA]; omega
    constructor
    · intro h
      refine okK_bad (k := k + 1) ?_
      rw [okK_next hlt, hb0, e0, decide_eq_false (by have := of_decide_eq_false h; omega), Bool.and_false]
    · intro h
      have h := of_decide_eq_true h
      refine .inl ⟨hlt, ?_, ?_⟩
      · rw [okK_next hlt, hb0, e0, hok, decide_eq_true (by have := hx.2.1; omega)]
        rfl
      · rw [wait_okvV hx h] at hO
        have e1 : tmB (endK v l t i by_ k) (visN v t l k) (bmp i by_ k) = ⟨A, max A (visN v t l k).we, max A (visN v t l k).we + (visN v t l k).sv⟩ := by
          unfold tmB
          rw [hb0, e0, hA]
        rw [← e1, rowK_next he hlt] at hO
        exact hO
  · obtain rfl : k = l.length := by omega
    rw [visN_home] at hA hx hO ⊢
    have e1 : fromB v l t i by_ = decide (A ≤ (homeV v).wl) := by
      rw [okK_all, hok, hA]
      rfl
    constructor
    · intro h
      rw [e1, h]
    · intro h
      refine .inr ⟨rfl, by rw [e1, h], _, hO, ?_, ?_⟩
      · rw [rowK_set he (Nat.le_refl _), List.take_append_of_le_length (by rw [rowK_len (Nat.le_refl _)]; exact Nat.le_refl _), List.take_of_length_le (by rw [rowK_len (Nat.le_refl _)]; exact Nat.le_refl _), List.take_of_length_le (by rw [pairs_length]; simp [visL])]
      · refine ⟨⟨A, Window.waitV (homeV v).we (homeV v).wl A, Window.waitV (homeV v).we (homeV v).wl A + (homeV v).sv⟩, ?_, ?_⟩
        · rw [rowK_set he (Nat.le_refl _), List.getElem?_append_right (by rw [rowK_len (Nat.le_refl _)]; exact Nat.le_refl _), rowK_len (Nat.le_refl _), Nat.sub_self]
          rfl
        · show A = _
          rw [← hA]
          unfold endK
          rw [List.take_of_length_le (by rw [pairs_length]; simp [visL])]

set_option maxRecDepth 100000 in
set_option maxHeartbeats 4000000 in
theorem push_any (v : Vh) (xl xt : Option Addr) (Nl Cl Nt Ct : Nat) (l : List (Int × Int)) (t : List Rq) (he : errT v l t = 0) (hl : l.length ≤ 1000000) (i : Nat) (hi : i < l.length) (by_ : Int) (hb : 0 ≤ by_ ∧ by_ ≤ 1048576) (M c B g : Nat) (hM : l.length + 1 = M) (w : World)
    (hL : Row B w (.slice xl Nl Cl) l) (hT : Rqs B w (.slice xt Nt Ct) t) (hW : Own w B g M c (T0 v l t)) :
    Calls Try.prog 26 #[.agg #[.int .i64 v.hx, .int .i64 v.hy, .int .i64 v.cp, .int .i64 v.st, .int .i64 v.en, .slice xl Nl Cl, .slice xt Nt Ct], .slice (some ⟨g, 0, none⟩) M c, .int .i64 i, .int .i64 by_] w fun e w' =>
      e = .returned (.bool (fromB v l t i by_)) ∧ w.grownBy w' (some g) ∧ (fromB v l t i by_ = true → PushedAt w' v l t i by_ B g M c) := by
  have hf := fine0_of (errT_zero.1 he).1
  obtain ⟨hBg, hgw⟩ := hW.block
  obtain ⟨hMc, hcm⟩ := hW.cap
  obtain ⟨q, hq⟩ : ∃ q, w.heap.size = q := ⟨_, rfl⟩
  obtain ⟨w1, hw1⟩ : ∃ w1, (w.alloc (.cells #[.int .i64 v.hx, .int .i64 v.hy, .int .i64 v.cp, .int .i64 v.st, .int .i64 v.en, .slice xl Nl Cl, .slice xt Nt Ct] 76)).alloc (.cells #[.slice (some ⟨g, 0, none⟩) M c] 46) = w1 := ⟨_, rfl⟩
  have hO1 : At w1 q 76 #[.int .i64 v.hx, .int .i64 v.hy, .int .i64 v.cp, .int .i64 v.st, .int .i64 v.en, .slice xl Nl Cl, .slice xt Nt Ct] := by rw [← hw1]; exact (At.new_ _ _ _ hq.symm).alloc _
  have hV1 : At w1 (q + 1) 46 #[.slice (some ⟨g, 0, none⟩) M c] := by rw [← hw1]; exact At.new_ _ _ _ (by simp [hq])
  have hb1 : Below w.heap.size w w1 := by rw [← hw1]; exact ((Below.refl _ _).alloc (Nat.le_refl _) _).alloc (by simp) _
  have hW1 := hW.keep hb1
  have hL1 := hL.keep hb1 (by omega)
  have hT1 := hT.keep hb1 (by omega)
  have hs1 : q + 1 < w1.heap.size := hV1.inside
  have hgq : g < q := by omega
  obtain ⟨hq0, _⟩ := T0_at (by_ := by_) he hi
  have hxo := visN_okv hf i
  have hsv := (late_facts he).2.2 i hi
  obtain ⟨a, ha⟩ : ∃ a, endK v l t i by_ i = a := ⟨_, rfl⟩
  rw [ha] at hq0
  have hbe : (tmB a (visN v t l i) 0).be = beB a (visN v t l i) 0 := rfl
  have har : (tmB a (visN v t l i) 0).ar = arV a (visN v t l i) := rfl
  obtain ⟨BE, hBE⟩ : ∃ BE, beB a (visN v t l i) 0 = BE := ⟨_, rfl⟩
  have hBEb : 0 ≤ BE ∧ BE ≤ 1048576 := by
    have h1 := time_bd he (tmB a (visN v t l i) 0) (by
      have hlt : i < (timesL v l t).length := by unfold timesL; rw [if_pos he, rowT_length]; exact hi
      unfold T0 at hq0
      rw [List.getElem?_append_left hlt] at hq0
      exact List.mem_of_getElem? hq0)
    rw [hbe, hBE] at h1
    exact h1
  have hsrv := serve_any v xl xt Nl Cl Nt Ct l t i M c B g q (q + 1) (BE + by_) (T0 v l t) _ (Nat.le_of_lt hi) hM hf.vis hsv w1 (hL1.more (by omega)) (hT1.more (by omega)) hO1 hV1 hW1 hq0
  have hwe : BE + by_ ≤ (visN v t l i).wl → Window.waitV (visN v t l i).we (visN v t l i).wl (BE + by_) = BE + by_ := fun h => by
    rw [wait_okvV hxo h]
    have : (visN v t l i).we ≤ BE := by rw [← hBE]; unfold beB; omega
    omega
  rw [wait_home hxo] at hsrv
  have hst1 : Hid (BE + by_ ≤ (visN v t l i).wl → (T0 v l t).set i ⟨arV a (visN v t l i), Window.waitV (visN v t l i).we (visN v t l i).wl (BE + by_), Window.waitV (visN v t l i).we (visN v t l i).wl (BE + by_) + (visN v t l i).sv⟩ = rowK v l t i by_ (T0 v l t) (i + 1) ∧ okK v l t i by_ (i + 1) = true) := Lib.hid (by
    intro h
    rw [hwe h, ← rowK_start he hi, ha]
    have e : beB a (visN v t l i) by_ = BE + by_ := by rw [← hBE]; simp [beB]
    constructor
    · unfold tmB
      rw [e]
    · rw [okK_next hi, okK_plain he (Nat.le_refl _), ha]
      have : bmp (i : Int) by_ i = by_ := by simp [bmp]
      rw [this, e, decide_eq_true h]
      rfl)
  have hst2 : Hid (¬ (BE + by_ ≤ (visN v t l i).wl) → fromB v l t i by_ = false) := Lib.hid (by
    intro h
    refine okK_bad (k := i + 1) ?_
    have e : beB a (visN v t l i) by_ = BE + by_ := by rw [← hBE]; simp [beB]
    rw [okK_next hi, ha]
    have : bmp (i : Int) by_ i = by_ := by simp [bmp]
    rw [this, e, decide_eq_false h, Bool.and_false])
  rw [har] at hsrv
  have c1 := hW1.get hq0 (j := 1) rfl
  rw [hbe, hBE] at c1
  have t0 := hV1.cell 0
  simp at t0
  have hiM : i < M := by omega
  have hiI : ((i : Int) < (M : Int)) := by omega
  have hMm : (M : Int) ≤ 9223372036854775807 := by unfold maxLen at hcm; omega
  have hw1' := Lib.hid hw1
  have hq' := Lib.hid hq
  have hf' := Lib.hid hf
  have he' := Lib.hid he
  have hO1' := Lib.hid hO1
  have hV1' := Lib.hid hV1
  have hL1' := Lib.hid hL1
  have hT1' := Lib.hid hT1
  have hM' := Lib.hid hM
  have hi' := Lib.hid hi
  have hl' := Lib.hid hl
  have hgw1 : Hid (w.grownBy w1 (some g)) := Lib.hid (gOf hb1)
  obtain ⟨ok0, hok0⟩ : ∃ b, decide (BE + by_ ≤ (visN v t l i).wl) = b := ⟨_, rfl⟩
  rw [hok0] at hsrv
  have hok0' := Lib.hid hok0
  clear hok0 hw1 hq hf he hO1 hV1 hL1 hT1 hM hi hL hT hW hW1 hq0 hxo hsv ha hbe har hBE hwe hb1 hl
  go_enter Try.func26, Try.ntmps26
  go_upto_region 1 with fail
  first | rw [hw1'.out] | (simp only [hq'.out]; rw [hw1'.out])
  try simp only [hq'.out]
  go_wp2_with fail
  refine hsrv.mono ?_
  clear hsrv c1 t0
  rintro e w2 ⟨rfl, hW2, hg2⟩
  have hSt : PushSt w2 v l t i by_ B g M c ok0 (i + 1) := by
    constructor
    · rintro rfl
      exact hst2.out (by have := of_decide_eq_false hok0'.out; omega)
    · rintro rfl
      obtain ⟨h1, h2⟩ := hst1.out (of_decide_eq_true hok0'.out)
      rw [h1] at hW2
      exact .inl ⟨hi'.out, h2, hW2⟩
  have hmon : Hid (∀ wr, w1.grownBy wr (some g) → Below B w1 wr) := Lib.hid (fun wr hg => (Below.refl _ _).grown hg (by omega) (fun r e => by cases e; exact hBg))
  have hM2 := hM'.out
  have hi2 : i + 1 ≤ l.length := hi'.out
  have hil : ((i : Int) + 1 ≤ 1000000) := by have := hl'.out; omega
  clear hW2 hst1 hst2 hok0'
  go_wp2
  go_loopw [10, 11] (fun b kk wr => ∃ (ok : Bool) (k : Nat), b = .bool ok ∧ kk = .int .i64 k ∧ k ≤ l.length + 1 ∧ i + 1 ≤ k ∧ w1.grownBy wr (some g) ∧ PushSt wr v l t i by_ B g M c ok k)
    (fun _ kk _ => l.length + 1 - (intOf kk).toNat)
  case atStart => exact ⟨ok0, i + 1, rfl, by go_num, by omega, Nat.le_refl _, hg2, hSt⟩
  case round =>
    obtain ⟨ok, k, rfl, rfl, hk, hik, hg, hS⟩ := hrel
    clear hSt hg2
    have hO := At.off hO1'.out hg (by omega)
    have hV := At.off hV1'.out hg (by omega)
    have v0 := hV.cell 0
    simp at v0
    have hVi := hV.inside
    have hfin : Hid (w.grownBy wr (some g)) := Lib.hid (hgw1.out.trans hg)
    cases ok
    · have hfb := Lib.hid (hS.1 rfl)
      clear hS hO hV hg
      go_wp2
      go_ret
      exact ⟨by rw [hfb.out]; rfl, hfin.out, fun h => by rw [hfb.out] at h; cases h⟩
    · rcases hS.2 rfl with ⟨hkn, hokk, hOwn⟩ | ⟨rfl, hfb, hP⟩
      · have hkM : k < M := by omega
        have hkI : ((k : Int) < (M : Int)) := by omega
        obtain ⟨j, hj⟩ : ∃ j, k = j + 1 := ⟨k - 1, by omega⟩
        have hjM : j < M := by omega
        have hjI : ((j : Int) < (M : Int)) := by omega
        have hk1 : (k : Int) - 1 = (j : Int) := by omega
        obtain ⟨q1, hq1, hq1l, hq1a⟩ := rowK_last (v := v) (l := l) (t := t) (i := i) (by_ := by_) (T := T0 v l t) (k := j) (by omega)
        rw [← hj] at hq1 hq1l hq1a
        obtain ⟨q2, hq2⟩ := rowK_at (v := v) (t := t) (i := i) (by_ := by_) he'.out hkn
        have hbd := endK_bd hf'.out (i := i) hb.1 (k := j) (by omega) (by rw [← hj]; exact hokk)
        rw [← hj, ← hq1l] at hbd
        obtain ⟨LV, hLV⟩ : ∃ LV, q1.lv = LV := ⟨_, rfl⟩
        obtain ⟨D, hD⟩ : ∃ D, wy (visN v t l j) (visN v t l k) = D := ⟨_, rfl⟩
        have hDb := wy_bd (visN v t l j) (visN v t l k)
        have hA : Hid (arV (endK v l t i by_ k) (visN v t l k) = LV + D) := Lib.hid (by rw [hq1a, hLV, hD])
        rw [hD] at hDb
        rw [hLV] at hbd
        have hBw := hmon.out wr hg
        have hLw := (hL1'.out.keep hBw (Nat.le_refl _)).more (C := wr.heap.size) (by have := hBw.size; omega)
        have hTw := (hT1'.out.keep hBw (Nat.le_refl _)).more (C := wr.heap.size) (by have := hBw.size; omega)
        have hon := fun (W : World) (hb : Below wr.heap.size wr W) => onward_any v _ _ l t j (by omega) hl'.out W (hLw.on hb) (hTw.on hb) hf'.out.vis
        rw [← hj, hD] at hon
        have hsz : w1.heap.size ≤ wr.heap.size := hg.size
        have z2 := hOwn.get hq1 (j := 2) rfl
        rw [hLV] at z2
        have y0 := hO.cell 0
        have y1 := hO.cell 1
        have y2 := hO.cell 2
        have y3 := hO.cell 3
        have y4 := hO.cell 4
        have y5 := hO.cell 5
        have y6 := hO.cell 6
        simp at y0 y1 y2 y3 y4 y5 y6
        have ky0 := cell_regrown y0
        have ky1 := cell_regrown y1
        have ky2 := cell_regrown y2
        have ky3 := cell_regrown y3
        have ky4 := cell_regrown y4
        have ky5 := cell_regrown y5
        have ky6 := cell_regrown y6
        have kz2 := cell_regrown z2
        have kv0 := cell_regrown v0
        have honq := fun d os => Calls.regrown_of (hon (grow (redrawn wr d) os) (below_regrown wr d os))
        have hsvk : 0 ≤ (visN v t l k).sv ∧ (visN v t l k).sv ≤ 1000 := by have := visN_okv hf'.out k; exact ⟨this.2.2.2.1, this.2.2.2.2⟩
        have hOwn' := Lib.hid hOwn
        have hq2' := Lib.hid hq2
        have hokk' := Lib.hid hokk
        have hO' := Lib.hid hO
        have hV' := Lib.hid hV
        have hg' := Lib.hid hg
        have hj' := Lib.hid hj
        have hoi := hO.inside
        clear hS hOwn hq1 hq1l hq1a hq2 hokk hLV hD hO hV hg hBw hLw hTw hon hj
        go_upto_region 6 with fail
        refine wp_region_below_tail 13 (by kernel_rfl) (by kernel_rfl) (by kernel_rfl) ?_
        simp only [List.take_succ_cons, List.take_zero, List.drop_succ_cons, List.drop_zero]
        repeat (go_big_quiet_step (with_reducible exact honq _ _))
        refine wpQuiet_nil ?_
        intro _ hw'
        obtain ⟨⟨dq, osq⟩, hw''⟩ := hw'
        subst hw''
        have hb8 := below_regrown wr dq osq
        have hOwn8 := hOwn'.out.keep hb8
        have hO8 := hO'.out.keep hb8 hoi
        have hV8 := hV'.out.keep hb8 hVi
        have hg8 := hg'.out.trans (gOf (row := some g) hb8)
        clear honq ky0 ky1 ky2 ky3 ky4 ky5 ky6 kz2 kv0 y0 y1 y2 y3 y4 y5 y6 z2 v0 hb8
        generalize grow (redrawn wr dq) osq = w8 at *
        have c0 := hOwn8.get hq2'.out (j := 0) rfl
        have cf := hOwn8.free (k * 3)
        rw [Nat.add_zero] at c0
        have hOwn9 := hOwn8.put hq2'.out (j := 0) (y := .int .i64 (LV + D)) (q' := ⟨LV + D, q2.be, q2.lv⟩) (by decide) rfl
        rw [Nat.add_zero] at hOwn9
        have hg9 := hg8.trans (gPut w8 g (k * 3) (.int .i64 (LV + D)))
        have hO9 := hO8.far (b := g) (by omega) (k * 3) (.int .i64 (LV + D))
        have hV9 := hV8.far (b := g) (by omega) (k * 3) (.int .i64 (LV + D))
        obtain ⟨w9, hw9⟩ : ∃ w9, w8.setCell ⟨g, k * 3, none⟩ (.int .i64 (LV + D)) = w9 := ⟨_, rfl⟩
        rw [hw9] at hOwn9 hg9 hO9 hV9
        have hw9' := Lib.hid hw9
        have hB9 := hmon.out _ hg9
        have hq9 : ((rowK v l t i by_ (T0 v l t) k).set k ⟨LV + D, q2.be, q2.lv⟩)[k]? = some ⟨LV + D, q2.be, q2.lv⟩ := by
          rw [List.getElem?_set]
          simp [(List.getElem?_eq_some_iff.1 hq2'.out).1]
        have hsrv := serve_any v xl xt Nl Cl Nt Ct l t k M c B g q (q + 1) (LV + D) _ _ hkn hM'.out hf'.out.vis hsvk w9 ((hL1'.out.keep hB9 (Nat.le_refl _)).more (by have := hB9.size; omega)) ((hT1'.out.keep hB9 (Nat.le_refl _)).more (by have := hB9.size; omega)) hO9 hV9 hOwn9 hq9
        rw [wait_home (visN_okv hf'.out k)] at hsrv
        have v9 := hV9.cell 0
        simp at v9
        have c9 := hOwn9.get hq9 (j := 0) rfl
        simp at c9
        have hi9 := hV9.inside
        have hgw9 : g < w9.heap.size := by omega
        have hg9' := Lib.hid hg9
        obtain ⟨ok2, hok2⟩ : ∃ b, decide (LV + D ≤ (visN v t l k).wl) = b := ⟨_, rfl⟩
        rw [hok2] at hsrv
        have hok2' := Lib.hid hok2
        clear hw9 hOwn9 hg9 hO9 hV9 hB9 hq9 hOwn8 hO8 hV8 hg8 hok2
        go_upto_region 7 with fail
        rw [hw9'.out]
        clear c0 cf
        go_wp2_with fail
        refine hsrv.mono ?_
        clear hsrv v9 c9
        rintro e wa ⟨rfl, hOwna, hga⟩
        rw [List.set_set] at hOwna
        have hga2 := hg9'.out.trans hga
        have hnext := push_next he'.out hik hkn hokk'.out hA.out hOwna
        rw [hok2'.out] at hnext
        have hnext' := Lib.hid hnext
        have hga' := Lib.hid hga2
        clear hOwna hga hga2 hnext
        go_wp2
        go_roundw
        case rel => exact ⟨ok2, k + 1, rfl, by go_num, by omega, by omega, hga'.out, hnext'.out⟩
        case measure => simp [intOf]; omega
      · have hfb' := Lib.hid hfb
        have hP' := Lib.hid hP
        have hkM : ((l.length + 1 : Nat) : Int) = (M : Int) := by omega
        clear hS hO hV hg hfb hP
        rw [hkM]
        go_wp2
        go_ret
        exact ⟨by rw [hfb'.out]; rfl, hfin.out, fun h => hP'.out⟩

end Go.Proofs.Ytfoflfeaegfnnaa.Slack

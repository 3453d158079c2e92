import Derived.Test.YtfoflfeaegfnnaaPkSlackRows
import Derived.Test.YtfoflfeaegfnnaaPkSched

/-
  The contract of the closure that package slack's push lays: one stop begins as early as it may.
-/
namespace Go.Proofs.Ytfoflfeaegfnnaa.Slack
open Go.RowKit Go.Sort Go.Proofs.Ytfoflfeaegfnnaa.Mem Go.Proofs.Ytfoflfeaegfnnaa.Route Go.Proofs.Ytfoflfeaegfnnaa.When
set_option linter.unusedVariables false

theorem waitCall (e l t B : Int) (b : Bool) (hB : Window.waitV e l t = B) (hb : Window.waitB e l t = b) (w : World) : Calls Try.prog 37 #[.agg #[.int .i64 e, .int .i64 l], .int .i64 t] w fun r w' => r = .returned (.tuple #[.int .i64 B, .bool b]) ∧ Below w.heap.size w w' := by
  rw [← hB, ← hb]; exact Window.Wait_any _ _ _ _

set_option maxRecDepth 100000 in
set_option maxHeartbeats 4000000 in
theorem serve_any (v : Vh) (xl xt : Option Addr) (Nl Cl Nt Ct : Nat) (l : List (Int × Int)) (t : List Rq) (k M c B g bo bt : Nat) (R : Int) (rows : List Tm) (q : Tm) (hk : k ≤ l.length) (hM : l.length + 1 = M) (hin : AllIn t l) (hsv : 0 ≤ (visN v t l k).sv ∧ (visN v t l k).sv ≤ 1000) (w : World)
    (hL : Row w.heap.size w (.slice xl Nl Cl) l) (hT : Rqs w.heap.size w (.slice xt Nt Ct) t) (hO : At w bo 76 #[.int .i64 v.hx, .int .i64 v.hy, .int .i64 v.cp, .int .i64 v.st, .int .i64 v.en, .slice xl Nl Cl, .slice xt Nt Ct]) (hV : At w bt 46 #[.slice (some ⟨g, 0, none⟩) M c]) (hW : Own w B g M c rows) (hq : rows[k]? = some q) :
    Calls Try.prog 42 #[.int .i64 k, .int .i64 R, .pointer (some ⟨bo, 0, none⟩), .pointer (some ⟨bt, 0, none⟩)] w fun e w' =>
      e = .returned (.bool (Window.waitB (visN v t l k).we (visN v t l k).wl R)) ∧ Own w' B g M c (rows.set k ⟨q.ar, Window.waitV (visN v t l k).we (visN v t l k).wl R, Window.waitV (visN v t l k).we (visN v t l k).wl R + (visN v t l k).sv⟩) ∧ w.grownBy w' (some g) := by
  have hvi := visit_any v _ _ l t k hk w hL hT hin
  have hwb := wait_bd (visN v t l k).we (visN v t l k).wl R
  have hwc := waitCall (visN v t l k).we (visN v t l k).wl R _ _ rfl rfl
  generalize visN v t l k = x at *
  obtain ⟨px, py, we, wl, sv⟩ := x
  simp only at hvi hsv hwb hwc ⊢
  generalize Window.waitV we wl R = BE at *
  generalize Window.waitB we wl R = ok at *
  have hne1 : bo ≠ g := fun e => by
    subst e
    obtain ⟨cs, hcs⟩ := hW.at_
    have := hO.symm.trans hcs
    simp at this
  have hne2 : bt ≠ g := fun e => by
    subst e
    obtain ⟨cs, hcs⟩ := hW.at_
    have := hV.symm.trans hcs
    simp at this
  have hgw := hW.block.2
  have hkM : k < M := by omega
  have hkI : ((k : Int) < (M : Int)) := by omega
  have hMm : (M : Int) ≤ 9223372036854775807 := by have := hW.cap; unfold maxLen at this; omega
  have o0 := hO.cell 0
  have o1 := hO.cell 1
  have o2 := hO.cell 2
  have o3 := hO.cell 3
  have o4 := hO.cell 4
  have o5 := hO.cell 5
  have o6 := hO.cell 6
  simp at o0 o1 o2 o3 o4 o5 o6
  have hoi := hO.inside
  have hti := hV.inside
  have hq' := Lib.hid hq
  have hW' := Lib.hid hW
  have hV' := Lib.hid hV
  clear hL hT hO hV hW hq hin hM
  go_enter Try.func42, Try.ntmps42
  go_wp2_with fail
  refine hvi.mono ?_
  clear hvi o0 o1 o2 o3 o4 o5 o6
  rintro e w1 ⟨rfl, hb1⟩
  obtain ⟨m, hm⟩ : ∃ m, w1.heap.size = m := ⟨_, rfl⟩
  obtain ⟨w2, hw2⟩ : ∃ w2, w1.alloc (.cells #[.int .i64 px, .int .i64 py, .int .i64 we, .int .i64 wl, .int .i64 sv] 101) = w2 := ⟨_, rfl⟩
  have hb12 : Below w1.heap.size w1 w2 := by rw [← hw2]; exact (Below.refl _ _).alloc (Nat.le_refl _) _
  have hX2 : At w2 m 101 #[.int .i64 px, .int .i64 py, .int .i64 we, .int .i64 wl, .int .i64 sv] := by rw [← hw2]; exact At.new_ _ _ _ hm.symm
  have hb2 := hb1.trans (hb12.mono hb1.size)
  have hgm : g < m := by have := hb1.size; omega
  have hwc2 := hwc w2
  have x2 := hX2.cell 2
  have x3 := hX2.cell 3
  simp at x2 x3
  have hmi := hX2.inside
  have hw2' := Lib.hid hw2
  have hm' := Lib.hid hm
  clear hw2 hm hb1 hb12 hwc
  go_upto_region 2 with fail
  simp only [hm'.out]
  rw [hw2'.out]
  go_wp2_with fail
  refine hwc2.mono ?_
  clear hwc2 x2 x3
  rintro e w3 ⟨rfl, hb3⟩
  have hX3 := hX2.keep hb3 hX2.inside
  have hb23 := hb2.trans (hb3.mono hb2.size)
  have hV3 := hV'.out.keep hb23 hti
  have hW3 := hW'.out.keep hb23
  have hgw3 : w.grownBy w3 (some g) := gOf hb23
  have hm3 : m < w3.heap.size := hX3.inside
  have hg3 : g < w3.heap.size := by omega
  clear hb3 hb2 hb23 hX2 hV' hW'
  go_upto_region 3 with fail
  refine Sched.wp_region_sched 12 (fun W W' => W.grownBy W' (some g)) (VC [.slice (some ⟨g, 0, none⟩) M c, .int .i64 k, .slice (some ⟨g, 0, none⟩) M c, .int .i64 k, .int .i64 BE, .int .i64 BE, .pointer (some ⟨m, 4, none⟩), .int .i64 sv, .int .i64 (BE + sv), .pointer (some ⟨g, k * 3, none⟩), .pointer (some ⟨g, k * 3 + 1, none⟩), undef]) (ZR 11 (fun W => Own W B g M c rows) (fun W => Own W B g M c (rows.set k ⟨q.ar, BE, q.lv⟩))) (by kernel_rfl) (by kernel_rfl) (by kernel_rfl) (fun h1 h2 => h1.trans h2) (fun h1 _ => h1) (gDrew _ _) (fun _ => ZR.start ?hZA) (Sched.StepsA.steps (by kernel_rfl) ?hSA) ?hQA
  case hSA =>
   simp only [List.take_succ_cons, List.take_zero]
   refine ⟨?_, ?_, ?_, ?_, ?_, ?_, ?_, ?_, ?_, ?_, ?_, ?_, trivial⟩
   · intro ys done W aa hE hn hF hD hZ hG hO
     replace hE : w3.grownBy W (some g) := hE
     have o3 := hO 3 (by kernel_rfl)
     replace o3 : aa.tmps[3]? = some (.pointer (some ⟨bt, 0, none⟩)) := o3
     have hAt := At.off hV3 hE hne2
     have pc := hAt.cell 0
     simp at pc
     clear hAt
     go_wp2_with fail
     exact ⟨_, rfl, gRefl _ _, VC.mk rfl rfl, hZ.light (by decide)⟩
   · intro ys done W aa hE hn hF hD hZ hG hO
     replace hE : w3.grownBy W (some g) := hE
     have o0 := hO 0 (by kernel_rfl)
     replace o0 : aa.tmps[0]? = some (.int .i64 k) := o0
     go_wp2_with fail
     exact ⟨_, rfl, gRefl _ _, VC.mk rfl rfl, hZ.light (by decide)⟩
   · intro ys done W aa hE hn hF hD hZ hG hO
     replace hE : w3.grownBy W (some g) := hE
     have o3 := hO 3 (by kernel_rfl)
     replace o3 : aa.tmps[3]? = some (.pointer (some ⟨bt, 0, none⟩)) := o3
     have hAt := At.off hV3 hE hne2
     have pc := hAt.cell 0
     simp at pc
     clear hAt
     go_wp2_with fail
     exact ⟨_, rfl, gRefl _ _, VC.mk rfl rfl, hZ.light (by decide)⟩
   · intro ys done W aa hE hn hF hD hZ hG hO
     replace hE : w3.grownBy W (some g) := hE
     have o0 := hO 0 (by kernel_rfl)
     replace o0 : aa.tmps[0]? = some (.int .i64 k) := o0
     go_wp2_with fail
     exact ⟨_, rfl, gRefl _ _, VC.mk rfl rfl, hZ.light (by decide)⟩
   · intro ys done W aa hE hn hF hD hZ hG hO
     replace hE : w3.grownBy W (some g) := hE
     have o8 := hO 8 (by kernel_rfl)
     replace o8 : aa.tmps[8]? = some (.int .i64 BE) := o8
     go_wp2_with fail
     exact ⟨_, rfl, gRefl _ _, VC.mk rfl rfl, hZ.light (by decide)⟩
   · intro ys done W aa hE hn hF hD hZ hG hO
     replace hE : w3.grownBy W (some g) := hE
     have o8 := hO 8 (by kernel_rfl)
     replace o8 : aa.tmps[8]? = some (.int .i64 BE) := o8
     go_wp2_with fail
     exact ⟨_, rfl, gRefl _ _, VC.mk rfl rfl, hZ.light (by decide)⟩
   · intro ys done W aa hE hn hF hD hZ hG hO
     replace hE : w3.grownBy W (some g) := hE
     have o7 := hO 7 (by kernel_rfl)
     replace o7 : aa.tmps[7]? = some (.pointer (some ⟨m, 0, none⟩)) := o7
     go_wp2_with fail
     exact ⟨_, rfl, gRefl _ _, VC.mk rfl rfl, hZ.light (by decide)⟩
   · intro ys done W aa hE hn hF hD hZ hG hO
     replace hE : w3.grownBy W (some g) := hE
     have g6 := hG 6 26 rfl (Nat.le_of_ble_eq_true rfl)
     rw [show ys 6 = .pointer (some ⟨m, 4, none⟩) from (hF 6 (by decide) (hD 6 (by kernel_rfl))) _ rfl] at g6
     have hAt := At.off hX3 hE (by omega)
     have pc := hAt.cell 4
     simp at pc
     clear hAt
     go_wp2_with fail
     exact ⟨_, rfl, gRefl _ _, VC.mk rfl rfl, hZ.light (by decide)⟩
   · intro ys done W aa hE hn hF hD hZ hG hO
     replace hE : w3.grownBy W (some g) := hE
     have g5 := hG 5 25 rfl (Nat.le_of_ble_eq_true rfl)
     rw [show ys 5 = .int .i64 BE from (hF 5 (by decide) (hD 5 (by kernel_rfl))) _ rfl] at g5
     have g7 := hG 7 27 rfl (Nat.le_of_ble_eq_true rfl)
     rw [show ys 7 = .int .i64 sv from (hF 7 (by decide) (hD 7 (by kernel_rfl))) _ rfl] at g7
     go_wp2_with fail
     exact ⟨_, rfl, gRefl _ _, VC.mk rfl rfl, hZ.light (by decide)⟩
   · intro ys done W aa hE hn hF hD hZ hG hO
     replace hE : w3.grownBy W (some g) := hE
     have g0 := hG 0 20 rfl (Nat.le_of_ble_eq_true rfl)
     rw [show ys 0 = .slice (some ⟨g, 0, none⟩) M c from (hF 0 (by decide) (hD 0 (by kernel_rfl))) _ rfl] at g0
     have g1 := hG 1 21 rfl (Nat.le_of_ble_eq_true rfl)
     rw [show ys 1 = .int .i64 k from (hF 1 (by decide) (hD 1 (by kernel_rfl))) _ rfl] at g1
     go_wp2_with fail
     exact ⟨_, rfl, gRefl _ _, VC.mk rfl rfl, hZ.light (by decide)⟩
   · intro ys done W aa hE hn hF hD hZ hG hO
     replace hE : w3.grownBy W (some g) := hE
     have g9 := hG 9 29 rfl (Nat.le_of_ble_eq_true rfl)
     rw [show ys 9 = .pointer (some ⟨g, k * 3, none⟩) from (hF 9 (by decide) (hD 9 (by kernel_rfl))) _ rfl] at g9
     go_wp2_with fail
     exact ⟨_, rfl, gRefl _ _, VC.mk rfl rfl, hZ.light (by decide)⟩
   · intro ys done W aa hE hn hF hD hZ hG hO
     replace hE : w3.grownBy W (some g) := hE
     have g10 := hG 10 30 rfl (Nat.le_of_ble_eq_true rfl)
     rw [show ys 10 = .pointer (some ⟨g, k * 3 + 1, none⟩) from (hF 10 (by decide) (hD 10 (by kernel_rfl))) _ rfl] at g10
     have g4 := hG 4 24 rfl (Nat.le_of_ble_eq_true rfl)
     rw [show ys 4 = .int .i64 BE from (hF 4 (by decide) (hD 4 (by kernel_rfl))) _ rfl] at g4
     have hP := hZ.1 hn
     have pc := hP.get hq'.out (j := 1) rfl
     have pf := hP.free (k * 3 + 1)
     have hP' := Lib.hid (hP.put hq'.out (j := 1) (y := .int .i64 BE) (q' := ⟨q.ar, BE, q.lv⟩) (by decide) rfl)
     clear hP
     go_wp2_with fail
     exact ⟨gPut _ _ _ _, undef, VC.mk (u := undef) rfl rfl, ZR.put hP'.out⟩
  case hQA =>
   intro ys w4 hE hF hZ
   replace hE : w3.grownBy w4 (some g) := hE
   obtain ⟨done, hd, hZ⟩ := hZ
   have hZ1 : _ := hZ.2 (hd 11 (by decide))
   have v0 : ys 0 = .slice (some ⟨g, 0, none⟩) M c := hF 0 (by decide) _ rfl
   have v1 : ys 1 = .int .i64 k := hF 1 (by decide) _ rfl
   have v2 : ys 2 = .slice (some ⟨g, 0, none⟩) M c := hF 2 (by decide) _ rfl
   have v3 : ys 3 = .int .i64 k := hF 3 (by decide) _ rfl
   have v4 : ys 4 = .int .i64 BE := hF 4 (by decide) _ rfl
   have v5 : ys 5 = .int .i64 BE := hF 5 (by decide) _ rfl
   have v6 : ys 6 = .pointer (some ⟨m, 4, none⟩) := hF 6 (by decide) _ rfl
   have v7 : ys 7 = .int .i64 sv := hF 7 (by decide) _ rfl
   have v8 : ys 8 = .int .i64 (BE + sv) := hF 8 (by decide) _ rfl
   have v9 : ys 9 = .pointer (some ⟨g, k * 3, none⟩) := hF 9 (by decide) _ rfl
   have v10 : ys 10 = .pointer (some ⟨g, k * 3 + 1, none⟩) := hF 10 (by decide) _ rfl
   have hX4 := At.off hX3 hE (show m ≠ g by omega)
   have hgw4 := hgw3.trans hE
   have hg4 : g < w4.heap.size := Nat.lt_of_lt_of_le hg3 hE.size
   simp only [List.take_succ_cons, List.take_zero, List.drop_succ_cons, List.drop_zero, Sched.fill, v0, v1, v2, v3, v4, v5, v6, v7, v8, v9, v10]
   clear hF hZ hd v0 v1 v2 v3 v4 v5 v6 v7 v8 v9 v10
   go_simp
   have hq2 : (rows.set k ⟨q.ar, BE, q.lv⟩)[k]? = some ⟨q.ar, BE, q.lv⟩ := by
    rw [List.getElem?_set]
    simp [(List.getElem?_eq_some_iff.1 hq'.out).1]
   have z2 := Own.get hZ1 hq2 (j := 2) rfl
   have zf := Own.free hZ1 (k * 3 + 2)
   have hf := Lib.hid (Own.put hZ1 hq2 (j := 2) (y := .int .i64 (BE + sv)) (q' := ⟨q.ar, BE, BE + sv⟩) (by decide) rfl)
   have hgw5 := Lib.hid (hgw4.trans (gPut w4 g (k * 3 + 2) (.int .i64 (BE + sv))))
   clear hZ1 hE hgw4 hgw3 hX4 hX3 hW3 hV3
   go_wp2
   go_ret
   refine ⟨rfl, ?_, hgw5.out⟩
   have h9 := hf.out
   rw [List.set_set] at h9
   exact h9
  case hZA => exact hW3

end Go.Proofs.Ytfoflfeaegfnnaa.Slack

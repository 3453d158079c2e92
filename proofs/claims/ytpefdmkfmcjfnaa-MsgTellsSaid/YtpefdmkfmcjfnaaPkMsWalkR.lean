import Derived.Test.YtpefdmkfmcjfnaaPkMsChain

namespace Go.Proofs.Ytpefdmkfmcjfnaa.Mp
open Go.RowKit Go.Sort Go.Proofs.Ytpefdmkfmcjfnaa.Mem Go.Proofs.Ytpefdmkfmcjfnaa.Route Go.Proofs.Ytpefdmkfmcjfnaa.Oct Go.Proofs.Ytpefdmkfmcjfnaa.Feas
set_option linter.unusedVariables false
def rqF (o : Nat) : List Fld := [(o, Kd.i, 2), (o + 1, Kd.i, 2), (o + 2, Kd.i, 2), (o + 3, Kd.i, 2), (o + 4, Kd.i, 4), (o + 5, Kd.i, 4), (o + 6, Kd.i, 4), (o + 7, Kd.i, 4), (o + 8, Kd.i, 2), (o + 9, Kd.i, 2)]
theorem rq_two {i o : Nat} (h : i < 2) : (rqF o)[2 * i]? = some (o + 2 * i, Kd.i, 2) ∧ (rqF o)[2 * i + 1]? = some (o + 2 * i + 1, Kd.i, 2) := by
 obtain rfl | rfl : i = 0 ∨ i = 1 := by omega
 · exact ⟨rfl, rfl⟩
 · exact ⟨rfl, rfl⟩
theorem rq_four {i o : Nat} (h : i < 2) : (rqF o)[4 + 2 * i]? = some (o + 4 + 2 * i, Kd.i, 4) ∧ (rqF o)[4 + 2 * i + 1]? = some (o + 4 + 2 * i + 1, Kd.i, 4) := by
 obtain rfl | rfl : i = 0 ∨ i = 1 := by omega
 · exact ⟨rfl, rfl⟩
 · exact ⟨rfl, rfl⟩
theorem two_ptr {w : World} {q g x y i : Nat} {t : TypeId} (h : At w q t #[.pointer (some ⟨g, x, none⟩), .pointer (some ⟨g, x + 2, none⟩)]) (hi : i < 2) : w.cell? ⟨q, i, none⟩ = some (.pointer (some ⟨g, x + 2 * i, none⟩)) := by
 rw [h.cell i]
 obtain rfl | rfl : i = 0 ∨ i = 1 := by omega
 · rfl
 · rfl
set_option maxRecDepth 100000 in
set_option maxHeartbeats 16000000 in
theorem walkRequest_any (T : Tell) (hT : T.fits) (g o b : Nat) (t : TypeId) (p : List Value × T.S) (w : World) (h : T.At (b + 8 * 10) p.2 w) (hA : AtL w g t p.1) (hty : Typed (rqF o) p.1) (hg : g ≠ T.own) :
 Calls Try.prog 39 #[T.tv, .pointer (some ⟨g, o, none⟩)] w fun e w' => e = .returned (.tuple #[]) ∧ Does T g t b (rqF o) p w w' := by
 have hgi := hA.inside
 have hoi := T.inside h
 obtain ⟨M, hM⟩ : ∃ M, w.heap.size = M := ⟨_, rfl⟩
 rw [hM] at hgi hoi
 replace hM := Lib.hid hM
 have hD0 := Does.nil h hA
 have hF := Lib.hid (fun (j : Nat) (x : Fld) (hj : (rqF o)[j]? = some x) (W : World) (hD : Does T g t (b + 8 * (10 - j)) ((rqF o).take j) p w W) =>
  T.field x (b + 8 * (10 - (j + 1))) g t (T.chain ((rqF o).take j) p) W (T.less hD.st (by have := (List.getElem?_eq_some_iff.1 hj).1; simp [rqF] at this; omega)) hD.cs
   (Typed.chain hT (m := [x]) (fun y hy => hty y (List.mem_of_mem_take hy)) (fun y hy => by rw [List.mem_singleton] at hy; subst hy; exact hty _ (List.mem_of_getElem? hj)) _ List.mem_cons_self) hg)
 have hN := Lib.hid (fun (j : Nat) (x : Fld) (hj : (rqF o)[j]? = some x) (W V : World) (hD : Does T g t (b + 8 * (10 - j)) ((rqF o).take j) p w W) (hE : Does T g t (b + 8 * (10 - (j + 1))) [x] (T.chain ((rqF o).take j) p) W V) =>
  (by have := hD.trans hE; rwa [← take_next hj] at this : Does T g t (b + 8 * (10 - (j + 1))) ((rqF o).take (j + 1)) p w V))
 clear h hA hty
 obtain ⟨tv, htv⟩ : ∃ tv, T.tv = tv := ⟨_, rfl⟩
 obtain ⟨ow, how⟩ : ∃ ow, T.own = ow := ⟨_, rfl⟩
 simp only [htv] at hF ⊢
 rw [how] at hoi
 replace how := Lib.hid how
 replace hD0 := Lib.hid hD0
 clear htv
 go_enter Try.func39, Try.ntmps39
 go_upto_region 0 with fail
 have hwM : M ≤ w.heap.size := by rw [hM.out]; exact Nat.le_refl _
 refine Sched.wp_region_schedA 9 (fun W W' => Below W.heap.size W W') (VK [.val (.pointer (some ⟨g, o, none⟩)), .val (.pointer (some ⟨g, o, none⟩)), .val (.pointer (some ⟨g, o, none⟩)), .val (.pointer (some ⟨g, o, none⟩)), .val (.pointer (some ⟨g, o, none⟩)), .val (.pointer (some ⟨g, o + 2, none⟩)), .of (fun v W => ∃ q : Nat, v = .slice (some ⟨q, 0, none⟩) 2 2 ∧ At W q 116 #[.pointer (some ⟨g, o, none⟩), .pointer (some ⟨g, o + 2, none⟩)] ∧ M ≤ q) (fun ⟨q, e, h, hm⟩ hb => ⟨q, e, h.keep hb h.inside, hm⟩), .val (.int .i64 2), .val (.int .i64 0)]) (fun _ _ _ => True) rfl (by kernel_rfl) (by kernel_rfl) (by kernel_rfl) (by kernel_rfl) (fun h1 h2 => belowTr h1 h2) (fun h1 h2 => VK.keep h1 h2) (Below.refl _ _).drew (fun _ => trivial) (Sched.StepsA.steps (by kernel_rfl) ?hSA) ?hQA
 case hSA =>
  simp only [List.take_succ_cons, List.take_zero]
  refine ⟨?_, ?_, ?_, ?_, ?_, ?_, ?_, ?_, ?_, trivial⟩
  · intro ys done W aa hE hn hF hD hZ hG hO
    replace hE : Below w.heap.size w W := hE
    have o1 := hO 1 (by kernel_rfl)
    replace o1 : aa.tmps[1]? = some (.pointer (some ⟨g, o, none⟩)) := o1
    go_wp2_with fail
    first | exact ⟨_, rfl, Below.refl _ _, VK.val rfl rfl, trivial⟩ | exact ⟨_, rfl, Below.refl _ _, VK.val rfl rfl⟩
  · intro ys done W aa hE hn hF hD hZ hG hO
    replace hE : Below w.heap.size w W := hE
    have v0 := (hF 0 (by decide) (hD 0 (by kernel_rfl))).eq rfl
    have g0 := hG 0 8 rfl (Nat.le_of_ble_eq_true rfl)
    rw [v0] at g0
    go_wp2_with fail
    first | exact ⟨_, rfl, Below.refl _ _, VK.val rfl rfl, trivial⟩ | exact ⟨_, rfl, Below.refl _ _, VK.val rfl rfl⟩
  · intro ys done W aa hE hn hF hD hZ hG hO
    replace hE : Below w.heap.size w W := hE
    have v1 := (hF 1 (by decide) (hD 1 (by kernel_rfl))).eq rfl
    have g1 := hG 1 9 rfl (Nat.le_of_ble_eq_true rfl)
    rw [v1] at g1
    go_wp2_with fail
    first | exact ⟨_, rfl, Below.refl _ _, VK.val rfl rfl, trivial⟩ | exact ⟨_, rfl, Below.refl _ _, VK.val rfl rfl⟩
  · intro ys done W aa hE hn hF hD hZ hG hO
    replace hE : Below w.heap.size w W := hE
    have o1 := hO 1 (by kernel_rfl)
    replace o1 : aa.tmps[1]? = some (.pointer (some ⟨g, o, none⟩)) := o1
    go_wp2_with fail
    first | exact ⟨_, rfl, Below.refl _ _, VK.val rfl rfl, trivial⟩ | exact ⟨_, rfl, Below.refl _ _, VK.val rfl rfl⟩
  · intro ys done W aa hE hn hF hD hZ hG hO
    replace hE : Below w.heap.size w W := hE
    have v3 := (hF 3 (by decide) (hD 3 (by kernel_rfl))).eq rfl
    have g3 := hG 3 11 rfl (Nat.le_of_ble_eq_true rfl)
    rw [v3] at g3
    go_wp2_with fail
    first | exact ⟨_, rfl, Below.refl _ _, VK.val rfl rfl, trivial⟩ | exact ⟨_, rfl, Below.refl _ _, VK.val rfl rfl⟩
  · intro ys done W aa hE hn hF hD hZ hG hO
    replace hE : Below w.heap.size w W := hE
    have v4 := (hF 4 (by decide) (hD 4 (by kernel_rfl))).eq rfl
    have g4 := hG 4 12 rfl (Nat.le_of_ble_eq_true rfl)
    rw [v4] at g4
    go_wp2_with fail
    first | exact ⟨_, rfl, Below.refl _ _, VK.val rfl rfl, trivial⟩ | exact ⟨_, rfl, Below.refl _ _, VK.val rfl rfl⟩
  · intro ys done W aa hE hn hF hD hZ hG hO
    replace hE : Below w.heap.size w W := hE
    have v2 := (hF 2 (by decide) (hD 2 (by kernel_rfl))).eq rfl
    have g2 := hG 2 10 rfl (Nat.le_of_ble_eq_true rfl)
    rw [v2] at g2
    have v5 := (hF 5 (by decide) (hD 5 (by kernel_rfl))).eq rfl
    have g5 := hG 5 13 rfl (Nat.le_of_ble_eq_true rfl)
    rw [v5] at g5
    go_wp2_with fail
    first | exact ⟨_, rfl, (Below.refl _ _).alloc (Nat.le_refl _) _, VK.of rfl ⟨_, rfl, At.new _ _ _, by have h1 := hE.size; have h2 := hwM; omega⟩, trivial⟩ | exact ⟨_, rfl, (Below.refl _ _).alloc (Nat.le_refl _) _, VK.of rfl ⟨_, rfl, At.new _ _ _, by have h1 := hE.size; have h2 := hwM; omega⟩⟩
  · intro ys done W aa hE hn hF hD hZ hG hO
    replace hE : Below w.heap.size w W := hE
    have v6 := (hF 6 (by decide) (hD 6 (by kernel_rfl))).get rfl
    have g6 := hG 6 14 rfl (Nat.le_of_ble_eq_true rfl)
    obtain ⟨qs, es, -⟩ := v6
    rw [es] at g6
    go_wp2_with fail
    first | exact ⟨_, rfl, Below.refl _ _, VK.val rfl rfl, trivial⟩ | exact ⟨_, rfl, Below.refl _ _, VK.val rfl rfl⟩
  · intro ys done W aa hE hn hF hD hZ hG hO
    replace hE : Below w.heap.size w W := hE
    go_wp2_with fail
    first | exact ⟨_, rfl, Below.refl _ _, VK.val rfl rfl, trivial⟩ | exact ⟨_, rfl, Below.refl _ _, VK.val rfl rfl⟩
 case hQA =>
  intro ys W1 hE hF9 _
  replace hE : Below w.heap.size w W1 := hE
  obtain ⟨q, v6, hq, hqM⟩ := (hF9 6 (by decide)).get rfl
  have v7 := (hF9 7 (by decide)).eq rfl
  have v8 := (hF9 8 (by decide)).eq rfl
  simp only [List.take_succ_cons, List.take_zero, List.drop_succ_cons, List.drop_zero, Sched.fill, v6, v7, v8]
  clear hF9 v6 v7 v8
  go_simp
  have hqo : q ≠ ow := by omega
  have hqg : q ≠ g := by omega
  have hqM2 := Lib.hid hqM
  clear hqM
  replace hq := Lib.hid (show At W1 q 116 #[.pointer (some ⟨g, o, none⟩), .pointer (some ⟨g, o + 2, none⟩)] from hq)
  have hD1 := Lib.hid (hD0.out.below hE)
  have hM1 : M ≤ W1.heap.size := Nat.le_trans hwM hE.size
  clear hD0 hE hwM
  go_wp2_with fail
  go_loopw [16] (fun c wr => ∃ i : Nat, c = .int .i64 (i : Int) ∧ i ≤ 2 ∧ Hid (Does T g t (b + 8 * (10 - (2 * i))) ((rqF o).take (2 * i)) p w wr) ∧ Hid (At wr q 116 #[.pointer (some ⟨g, o, none⟩), .pointer (some ⟨g, o + 2, none⟩)]) ∧ M ≤ wr.heap.size)
   (fun c _ => 2 - (RowKit.intOf c).toNat)
  case atStart => exact ⟨0, rfl, by omega, hD1, hq, hM1⟩
  case round =>
   obtain ⟨wi, hwi⟩ : ∃ wi, wi = wr := ⟨_, rfl⟩
   subst hwi
   obtain ⟨i, rfl, hi, hD, hQ, hwM⟩ := hrel
   clear hD1 hq hM1
   by_cases hlt : i < 2
   case pos =>
    have hlt' : (i : Int) < 2 := by omega
    have hc := two_ptr (y := 0) hQ.out hlt
    have hr := rq_two (o := o) hlt
    have f1 := Lib.hid (hF.out (2 * i) (o + 2 * i, Kd.i, 2) hr.1 wi hD.out)
    replace hr := Lib.hid hr
    have hltH := Lib.hid hlt
    clear hlt
    go_wp2_with fail
    refine f1.out.mono ?_
    rintro e w1 ⟨rfl, d1⟩
    have hQ1 := Lib.hid (d1.two.at hQ.out (by rw [how.out]; exact hqo) hqg)
    have hD2 := Lib.hid (hN.out (2 * i) (o + 2 * i, Kd.i, 2) hr.out.1 wi w1 hD.out d1)
    have hm1 : M ≤ w1.heap.size := Nat.le_trans hwM d1.two.size
    have f2 := Lib.hid (hF.out (2 * i + 1) (o + 2 * i + 1, Kd.i, 2) hr.out.2 w1 hD2.out)
    clear f1 d1 hD hQ hc hwM
    go_wp2_with fail
    refine f2.out.mono ?_
    rintro e w2 ⟨rfl, d2⟩
    have hQ2 := Lib.hid (d2.two.at hQ1.out (by rw [how.out]; exact hqo) hqg)
    have hD3 := Lib.hid (hN.out (2 * i + 1) (o + 2 * i + 1, Kd.i, 2) hr.out.2 w1 w2 hD2.out d2)
    have hm2 : M ≤ w2.heap.size := Nat.le_trans hm1 d2.two.size
    clear f2 d2 hD2 hQ1 hm1
    go_wp2_with fail
    go_roundw
    case rel => exact ⟨i + 1, by go_num, by have := hltH.out; omega, (by rw [show 2 * (i + 1) = 2 * i + 1 + 1 by omega]; exact hD3), hQ2, hm2⟩
    case measure => have := hltH.out; simp [RowKit.intOf]; omega
   case neg =>
    obtain rfl : i = 2 := by omega
    have hE4 := Lib.hid (show Does T g t (b + 8 * (10 - 4)) ((rqF o).take 4) p w wi from hD.out)
    clear hD hQ hlt hi hqo hqg hqM2
    simp only [show ((2 : Nat) : Int) = 2 from rfl]
    go_upto_region 6 with fail
    refine Sched.wp_region_schedA 9 (fun W W' => Below W.heap.size W W') (VK [.val (.pointer (some ⟨g, o, none⟩)), .val (.pointer (some ⟨g, o, none⟩)), .val (.pointer (some ⟨g, o + 4, none⟩)), .val (.pointer (some ⟨g, o, none⟩)), .val (.pointer (some ⟨g, o, none⟩)), .val (.pointer (some ⟨g, o + 6, none⟩)), .of (fun v W => ∃ q : Nat, v = .slice (some ⟨q, 0, none⟩) 2 2 ∧ At W q 118 #[.pointer (some ⟨g, o + 4, none⟩), .pointer (some ⟨g, o + 6, none⟩)] ∧ M ≤ q) (fun ⟨q, e, h, hm⟩ hb => ⟨q, e, h.keep hb h.inside, hm⟩), .val (.int .i64 2), .val (.int .i64 0)]) (fun _ _ _ => True) rfl (by kernel_rfl) (by kernel_rfl) (by kernel_rfl) (by kernel_rfl) (fun h1 h2 => belowTr h1 h2) (fun h1 h2 => VK.keep h1 h2) (Below.refl _ _).drew (fun _ => trivial) (Sched.StepsA.steps (by kernel_rfl) ?hSB) ?hQB
    case hSB =>
     simp only [List.take_succ_cons, List.take_zero]
     refine ⟨?_, ?_, ?_, ?_, ?_, ?_, ?_, ?_, ?_, trivial⟩
     · intro ys done W aa hE hn hF hD hZ hG hO
       replace hE : Below wi.heap.size wi W := hE
       have o1 := hO 1 (by kernel_rfl)
       replace o1 : aa.tmps[1]? = some (.pointer (some ⟨g, o, none⟩)) := o1
       go_wp2_with fail
       first | exact ⟨_, rfl, Below.refl _ _, VK.val rfl rfl, trivial⟩ | exact ⟨_, rfl, Below.refl _ _, VK.val rfl rfl⟩
     · intro ys done W aa hE hn hF hD hZ hG hO
       replace hE : Below wi.heap.size wi W := hE
       have v0 := (hF 0 (by decide) (hD 0 (by kernel_rfl))).eq rfl
       have g0 := hG 0 31 rfl (Nat.le_of_ble_eq_true rfl)
       rw [v0] at g0
       go_wp2_with fail
       first | exact ⟨_, rfl, Below.refl _ _, VK.val rfl rfl, trivial⟩ | exact ⟨_, rfl, Below.refl _ _, VK.val rfl rfl⟩
     · intro ys done W aa hE hn hF hD hZ hG hO
       replace hE : Below wi.heap.size wi W := hE
       have v1 := (hF 1 (by decide) (hD 1 (by kernel_rfl))).eq rfl
       have g1 := hG 1 32 rfl (Nat.le_of_ble_eq_true rfl)
       rw [v1] at g1
       go_wp2_with fail
       first | exact ⟨_, rfl, Below.refl _ _, VK.val rfl rfl, trivial⟩ | exact ⟨_, rfl, Below.refl _ _, VK.val rfl rfl⟩
     · intro ys done W aa hE hn hF hD hZ hG hO
       replace hE : Below wi.heap.size wi W := hE
       have o1 := hO 1 (by kernel_rfl)
       replace o1 : aa.tmps[1]? = some (.pointer (some ⟨g, o, none⟩)) := o1
       go_wp2_with fail
       first | exact ⟨_, rfl, Below.refl _ _, VK.val rfl rfl, trivial⟩ | exact ⟨_, rfl, Below.refl _ _, VK.val rfl rfl⟩
     · intro ys done W aa hE hn hF hD hZ hG hO
       replace hE : Below wi.heap.size wi W := hE
       have v3 := (hF 3 (by decide) (hD 3 (by kernel_rfl))).eq rfl
       have g3 := hG 3 34 rfl (Nat.le_of_ble_eq_true rfl)
       rw [v3] at g3
       go_wp2_with fail
       first | exact ⟨_, rfl, Below.refl _ _, VK.val rfl rfl, trivial⟩ | exact ⟨_, rfl, Below.refl _ _, VK.val rfl rfl⟩
     · intro ys done W aa hE hn hF hD hZ hG hO
       replace hE : Below wi.heap.size wi W := hE
       have v4 := (hF 4 (by decide) (hD 4 (by kernel_rfl))).eq rfl
       have g4 := hG 4 35 rfl (Nat.le_of_ble_eq_true rfl)
       rw [v4] at g4
       go_wp2_with fail
       first | exact ⟨_, rfl, Below.refl _ _, VK.val rfl rfl, trivial⟩ | exact ⟨_, rfl, Below.refl _ _, VK.val rfl rfl⟩
     · intro ys done W aa hE hn hF hD hZ hG hO
       replace hE : Below wi.heap.size wi W := hE
       have v2 := (hF 2 (by decide) (hD 2 (by kernel_rfl))).eq rfl
       have g2 := hG 2 33 rfl (Nat.le_of_ble_eq_true rfl)
       rw [v2] at g2
       have v5 := (hF 5 (by decide) (hD 5 (by kernel_rfl))).eq rfl
       have g5 := hG 5 36 rfl (Nat.le_of_ble_eq_true rfl)
       rw [v5] at g5
       go_wp2_with fail
       first | exact ⟨_, rfl, (Below.refl _ _).alloc (Nat.le_refl _) _, VK.of rfl ⟨_, rfl, At.new _ _ _, by have h1 := hE.size; have h2 := hwM; omega⟩, trivial⟩ | exact ⟨_, rfl, (Below.refl _ _).alloc (Nat.le_refl _) _, VK.of rfl ⟨_, rfl, At.new _ _ _, by have h1 := hE.size; have h2 := hwM; omega⟩⟩
     · intro ys done W aa hE hn hF hD hZ hG hO
       replace hE : Below wi.heap.size wi W := hE
       have v6 := (hF 6 (by decide) (hD 6 (by kernel_rfl))).get rfl
       have g6 := hG 6 37 rfl (Nat.le_of_ble_eq_true rfl)
       obtain ⟨qs, es, -⟩ := v6
       rw [es] at g6
       go_wp2_with fail
       first | exact ⟨_, rfl, Below.refl _ _, VK.val rfl rfl, trivial⟩ | exact ⟨_, rfl, Below.refl _ _, VK.val rfl rfl⟩
     · intro ys done W aa hE hn hF hD hZ hG hO
       replace hE : Below wi.heap.size wi W := hE
       go_wp2_with fail
       first | exact ⟨_, rfl, Below.refl _ _, VK.val rfl rfl, trivial⟩ | exact ⟨_, rfl, Below.refl _ _, VK.val rfl rfl⟩
    case hQB =>
     intro ys W1 hE hF9 _
     replace hE : Below wi.heap.size wi W1 := hE
     obtain ⟨q, v6, hq, hqM⟩ := (hF9 6 (by decide)).get rfl
     have v7 := (hF9 7 (by decide)).eq rfl
     have v8 := (hF9 8 (by decide)).eq rfl
     simp only [List.take_succ_cons, List.take_zero, List.drop_succ_cons, List.drop_zero, Sched.fill, v6, v7, v8]
     clear hF9 v6 v7 v8
     go_simp
     have hqo : q ≠ ow := by omega
     have hqg : q ≠ g := by omega
     have hqM2 := Lib.hid hqM
     clear hqM
     replace hq := Lib.hid (show At W1 q 118 #[.pointer (some ⟨g, o + 4, none⟩), .pointer (some ⟨g, o + 4 + 2, none⟩)] from hq)
     have hD1 := Lib.hid (hE4.out.below hE)
     have hM1 : M ≤ W1.heap.size := Nat.le_trans hwM hE.size
     clear hE4 hE hwM
     go_wp2_with fail
     go_loopw [39] (fun c wr => ∃ i : Nat, c = .int .i64 (i : Int) ∧ i ≤ 2 ∧ Hid (Does T g t (b + 8 * (10 - (4 + 2 * i))) ((rqF o).take (4 + 2 * i)) p w wr) ∧ Hid (At wr q 118 #[.pointer (some ⟨g, o + 4, none⟩), .pointer (some ⟨g, o + 4 + 2, none⟩)]) ∧ M ≤ wr.heap.size)
      (fun c _ => 2 - (RowKit.intOf c).toNat)
     case atStart => exact ⟨0, rfl, by omega, hD1, hq, hM1⟩
     case round =>
      obtain ⟨wi, hwi⟩ : ∃ wi, wi = wr := ⟨_, rfl⟩
      subst hwi
      obtain ⟨i, rfl, hi, hD, hQ, hwM⟩ := hrel
      clear hD1 hq hM1
      by_cases hlt : i < 2
      case pos =>
       have hlt' : (i : Int) < 2 := by omega
       have hc := two_ptr (y := 0) hQ.out hlt
       have hr := rq_four (o := o) hlt
       have f1 := Lib.hid (hF.out (4 + 2 * i) (o + 4 + 2 * i, Kd.i, 4) hr.1 wi hD.out)
       replace hr := Lib.hid hr
       have hltH := Lib.hid hlt
       clear hlt
       go_wp2_with fail
       refine f1.out.mono ?_
       rintro e w1 ⟨rfl, d1⟩
       have hQ1 := Lib.hid (d1.two.at hQ.out (by rw [how.out]; exact hqo) hqg)
       have hD2 := Lib.hid (hN.out (4 + 2 * i) (o + 4 + 2 * i, Kd.i, 4) hr.out.1 wi w1 hD.out d1)
       have hm1 : M ≤ w1.heap.size := Nat.le_trans hwM d1.two.size
       have f2 := Lib.hid (hF.out (4 + 2 * i + 1) (o + 4 + 2 * i + 1, Kd.i, 4) hr.out.2 w1 hD2.out)
       clear f1 d1 hD hQ hc hwM
       go_wp2_with fail
       refine f2.out.mono ?_
       rintro e w2 ⟨rfl, d2⟩
       have hQ2 := Lib.hid (d2.two.at hQ1.out (by rw [how.out]; exact hqo) hqg)
       have hD3 := Lib.hid (hN.out (4 + 2 * i + 1) (o + 4 + 2 * i + 1, Kd.i, 4) hr.out.2 w1 w2 hD2.out d2)
       have hm2 : M ≤ w2.heap.size := Nat.le_trans hm1 d2.two.size
       clear f2 d2 hD2 hQ1 hm1
       go_wp2_with fail
       go_roundw
       case rel => exact ⟨i + 1, by go_num, by have := hltH.out; omega, (by rw [show 4 + 2 * (i + 1) = 4 + 2 * i + 1 + 1 by omega]; exact hD3), hQ2, hm2⟩
       case measure => have := hltH.out; simp [RowKit.intOf]; omega
      case neg =>
       obtain rfl : i = 2 := by omega
       have hE8 := Lib.hid (show Does T g t (b + 8 * (10 - 8)) ((rqF o).take 8) p w wi from hD.out)
       clear hD hQ hlt hi hqo hqg hqM2
       simp only [show ((2 : Nat) : Int) = 2 from rfl]
       have f1 := Lib.hid (hF.out 8 (o + 8, Kd.i, 2) rfl wi hE8.out)
       go_wp2_with fail
       refine f1.out.mono ?_
       rintro e w1 ⟨rfl, d1⟩
       have hD2 := Lib.hid (hN.out 8 (o + 8, Kd.i, 2) rfl wi w1 hE8.out d1)
       have f2 := Lib.hid (hF.out 9 (o + 9, Kd.i, 2) rfl w1 hD2.out)
       clear f1 d1 hE8
       go_wp2_with fail
       refine f2.out.mono ?_
       rintro e w2 ⟨rfl, d2⟩
       have hD3 := Lib.hid (hN.out 9 (o + 9, Kd.i, 2) rfl w1 w2 hD2.out d2)
       clear f2 d2 hD2
       go_wp2
       refine bodyPost_end (results_none rfl _ _ _) rfl ?_
       exact ⟨rfl, hD3.out⟩
end Go.Proofs.Ytpefdmkfmcjfnaa.Mp
namespace Go.Proofs.Ytpefdmkfmcjfnaa.Fr
open Go.Proofs.Ytpefdmkfmcjfnaa.Oct
set_option linter.unusedVariables false
structure Fd where
 k : Nat
 body : Bs
 rest : Bs
def big (b c : UInt8) : Nat := 256 * b.toNat + c.toNat
def front : Bs → Option Fd
 | a :: b :: c :: t => if big b c ≤ t.length then some ⟨a.toNat, t.take (big b c), t.drop (big b c)⟩ else none
 | _ => none
def frL (k : Nat) (b : Bs) : Bs := UInt8.ofNat k :: UInt8.ofNat (b.length / 256) :: UInt8.ofNat (b.length % 256) :: b
def spK (s : Bs) : Int := match front s with | some f => (f.k : Int) | none => 0
def spB (s : Bs) : Bs := match front s with | some f => f.body | none => []
def spR (s : Bs) : Bs := match front s with | some f => f.rest | none => []
def spE (s : Bs) : Int := match front s with | some _ => 0 | none => 14
def paK (s : Bs) : Int := match front s with | some f => (if f.rest = [] then (f.k : Int) else 0) | none => 0
def paB (s : Bs) : Bs := match front s with | some f => (if f.rest = [] then f.body else []) | none => []
def paE (s : Bs) : Int := match front s with | some f => (if f.rest = [] then 0 else 15) | none => 14
inductive Run : Bs → List Fd → Bs → Prop
 | stop {s : Bs} (h : front s = none) : Run s [] s
 | go {s r : Bs} {f : Fd} {l : List Fd} (h : front s = some f) (h2 : Run f.rest l r) : Run s (f :: l) r
theorem big_lt (b c : UInt8) : big b c < 65536 := by
 have := b.toNat_lt
 have := c.toNat_lt
 unfold big
 omega
theorem front_some {s : Bs} {f : Fd} (h : front s = some f) : f.k < 256 ∧ f.body.length < 65536 ∧ s = frL f.k f.body ++ f.rest := by
 match s, h with
 | a :: b :: c :: t, h =>
  simp only [front] at h
  split at h
  case isFalse => cases h
  case isTrue hl =>
   cases h
   have ha := a.toNat_lt
   have hb := big_lt b c
   have hn : (t.take (big b c)).length = big b c := by rw [List.length_take]; omega
   refine ⟨ha, by rw [hn]; exact hb, ?_⟩
   have h1 : UInt8.ofNat (big b c / 256) = b := by
    have := b.toNat_lt
    have := c.toNat_lt
    rw [show big b c / 256 = b.toNat by unfold big; omega, UInt8.ofNat_toNat]
   have h2 : UInt8.ofNat (big b c % 256) = c := by
    have := b.toNat_lt
    have := c.toNat_lt
    rw [show big b c % 256 = c.toNat by unfold big; omega, UInt8.ofNat_toNat]
   simp only [frL, hn, h1, h2, UInt8.ofNat_toNat, List.cons_append, List.take_append_drop]
theorem frL_length (k : Nat) (b : Bs) : (frL k b).length = 3 + b.length := by
 simp [frL]
 omega
theorem rest_length {s : Bs} {f : Fd} (h : front s = some f) : f.rest.length + 3 ≤ s.length := by
 obtain ⟨_, _, e⟩ := front_some h
 have := congrArg List.length e
 rw [List.length_append, frL_length] at this
 omega
theorem run_all : ∀ (n : Nat) (s : Bs), s.length ≤ n → ∃ l r, Run s l r
 | 0, s, h => by
  obtain rfl := List.eq_nil_of_length_eq_zero (Nat.le_zero.1 h)
  exact ⟨[], [], .stop rfl⟩
 | n + 1, s, h => by
  cases hf : front s with
  | none => exact ⟨[], s, .stop hf⟩
  | some f =>
   have := rest_length hf
   obtain ⟨l, r, hr⟩ := run_all n f.rest (by omega)
   exact ⟨f :: l, r, .go hf hr⟩
theorem Run.some (s : Bs) : ∃ l r, Run s l r := run_all s.length s (Nat.le_refl _)
theorem Run.length {s r : Bs} {l : List Fd} (h : Run s l r) : l.length ≤ s.length := by
 induction h with
 | stop _ => simp
 | go h _ ih =>
  have := rest_length h
  simp
  omega
theorem Run.left {s r : Bs} {l : List Fd} (h : Run s l r) : front r = none := by
 induction h with
 | stop h => exact h
 | go _ _ ih => exact ih
theorem Run.same {s r r' : Bs} {l l' : List Fd} (h : Run s l r) (h' : Run s l' r') : l = l' ∧ r = r' := by
 induction h generalizing l' r' with
 | stop h =>
  cases h' with
  | stop _ => exact ⟨rfl, rfl⟩
  | go h2 _ => rw [h] at h2; cases h2
 | go h _ ih =>
  cases h' with
  | stop h2 => rw [h] at h2; cases h2
  | go h2 h3 =>
   rw [h] at h2
   cases h2
   obtain ⟨rfl, rfl⟩ := ih h3
   exact ⟨rfl, rfl⟩
end Go.Proofs.Ytpefdmkfmcjfnaa.Fr

/-
  A block's words: the document's words.
-/
import Derived.Test.YtkailfajemeeaaaDoorShaRoots
import Derived.Test.YtkailfajemeeaaaDoorSchedVK
import Derived.BigQuiet
import Derived.Lib.QuietBelow
namespace Go.Proofs.YtkailfajemeeaaaDoor.Sha
open Go.RowKit Go.Sort Go.Proofs.YtkailfajemeeaaaDoor.Mem Go.Proofs.YtkailfajemeeaaaDoor.Route Go.Proofs.YtkailfajemeeaaaDoor.Feas
set_option linter.unusedVariables false

theorem wordsN_len (b : List Nat) : ∀ i, (wordsN b i).length = i
  | 0 => rfl
  | i + 1 => by simp [wordsN, wordsN_len b i]
theorem be_toNat {x0 x1 x2 x3 : Nat} (h0 : x0 < 256) (h1 : x1 < 256) (h2 : x2 < 256) (h3 : x3 < 256) :
    (((BitVec.ofNat 32 x0 <<< 24 : Wd).toNat : Int) = (x0 : Int) * 16777216 ∧ ((BitVec.ofNat 32 x1 <<< 16 : Wd).toNat : Int) = (x1 : Int) * 65536 ∧ ((BitVec.ofNat 32 x2 <<< 8 : Wd).toNat : Int) = (x2 : Int) * 256) ∧ ((BitVec.ofNat 32 x3 : Wd).toNat : Int) = (x3 : Int) := by
  simp [BitVec.toNat_shiftLeft, Nat.shiftLeft_eq]
  omega
set_option maxRecDepth 100000 in
set_option maxHeartbeats 4000000 in
theorem words_any (b : List Nat) (hbl : b.length = 64) (hb8 : ∀ x ∈ b, x < 256) (xb : Option Addr) (cb : Nat) (w : World) (hrow : RowB w.heap.size w (.slice xb 64 cb) 1 (b.map fun p => [u8V p])) :
    Calls Tryd.prog 25 #[.slice xb 64 cb] w fun e w' => (∃ u, e = .returned u ∧ w'.ownsRow w.heap.size 39 1 u 64 ((wordsN b 64).map u32V)) ∧ Below w.heap.size w w' := by
  obtain ⟨i0, hi, hz0, hz1, hz2⟩ := info_parts info_u32S
  obtain ⟨g, o, rfl, hg, -⟩ := one_at hrow (k := 0) (p := b[0]'(by omega)) (List.getElem?_eq_getElem _)
  have hrow' := Lib.hid hrow
  have hbl' := Lib.hid hbl
  clear hrow
  go_enter Tryd.func25, Tryd.ntmps25
  go_wp2
  go_loopw [3, 4] (fun u c wr => ∃ i : Nat, c = .int .i64 (i : Int) ∧ i ≤ 64 ∧ Hid (wr.ownsRow w.heap.size 39 1 u i ((wordsN b i).map u32V)) ∧ Hid (Below w.heap.size w wr))
    (fun _ c _ => 64 - (intOf c).toNat)
  case atStart => exact ⟨0, rfl, Nat.zero_le _, Lib.hid (World.ownsRow_nil _ _ _ _), Lib.hid (Below.refl _ _)⟩
  case round =>
    obtain ⟨wi, hwi⟩ : ∃ wi, wi = wr := ⟨_, rfl⟩
    subst hwi
    obtain ⟨i, rfl, hi64, hown, hbw⟩ := hrel
    obtain ⟨xo, co, rfl, hco1, hco2⟩ := owns_slice hown.out
    by_cases hlti : i < 64
    case neg =>
      obtain rfl : i = 64 := by omega
      clear hco1 hco2
      go_wp2
      go_ret
      exact ⟨⟨_, rfl, hown.out⟩, hbw.out⟩
    have hii : (i : Int) < 64 := by omega
    have hsz := hbw.out.size
    have hgi : g < wi.heap.size := Nat.lt_of_lt_of_le hg hsz
    have hnw := Lib.hid (show wordsN b (i + 1) = wordsN b i ++ [nextW b (wordsN b i) i] from rfl)
    by_cases h16 : i < 16
    · have h16i : (i : Int) < 16 := by omega
      have hx := fun (j : Nat) (hj : j < 4) => one_at (RowB.on hrow'.out hbw.out) (k := 4 * i + j) (p := b[4 * i + j]'(by rw [hbl'.out]; omega)) (List.getElem?_eq_getElem _)
      obtain ⟨x0, h0, hb0, q0⟩ : ∃ x, b.getD (4 * i) 0 = x ∧ x < 256 ∧ wi.cell? ⟨g, o + 4 * i, none⟩ = some (.int .u8 (x : Int)) := by
        obtain ⟨g', o', e, -, hc⟩ := hx 0 (by decide)
        cases e
        exact ⟨b[4 * i + 0]'(by rw [hbl'.out]; omega), by simp [List.getD, List.getElem?_eq_getElem (show 4 * i < b.length by rw [hbl'.out]; omega)], hb8 _ (List.getElem_mem _), hc⟩
      obtain ⟨x1, h1, hb1, q1⟩ : ∃ x, b.getD (4 * i + 1) 0 = x ∧ x < 256 ∧ wi.cell? ⟨g, o + (4 * i + 1), none⟩ = some (.int .u8 (x : Int)) := by
        obtain ⟨g', o', e, -, hc⟩ := hx 1 (by decide)
        cases e
        exact ⟨b[4 * i + 1]'(by rw [hbl'.out]; omega), by simp [List.getD, List.getElem?_eq_getElem (show 4 * i + 1 < b.length by rw [hbl'.out]; omega)], hb8 _ (List.getElem_mem _), hc⟩
      obtain ⟨x2, h2, hb2, q2⟩ : ∃ x, b.getD (4 * i + 2) 0 = x ∧ x < 256 ∧ wi.cell? ⟨g, o + (4 * i + 2), none⟩ = some (.int .u8 (x : Int)) := by
        obtain ⟨g', o', e, -, hc⟩ := hx 2 (by decide)
        cases e
        exact ⟨b[4 * i + 2]'(by rw [hbl'.out]; omega), by simp [List.getD, List.getElem?_eq_getElem (show 4 * i + 2 < b.length by rw [hbl'.out]; omega)], hb8 _ (List.getElem_mem _), hc⟩
      obtain ⟨x3, h3, hb3, q3⟩ : ∃ x, b.getD (4 * i + 3) 0 = x ∧ x < 256 ∧ wi.cell? ⟨g, o + (4 * i + 3), none⟩ = some (.int .u8 (x : Int)) := by
        obtain ⟨g', o', e, -, hc⟩ := hx 3 (by decide)
        cases e
        exact ⟨b[4 * i + 3]'(by rw [hbl'.out]; omega), by simp [List.getD, List.getElem?_eq_getElem (show 4 * i + 3 < b.length by rw [hbl'.out]; omega)], hb8 _ (List.getElem_mem _), hc⟩
      obtain ⟨⟨e0, e1, e2⟩, e3⟩ := be_toNat hb0 hb1 hb2 hb3
      have hnx : nextW b (wordsN b i) i = BitVec.ofNat 32 x0 <<< 24 ||| BitVec.ofNat 32 x1 <<< 16 ||| BitVec.ofNat 32 x2 <<< 8 ||| BitVec.ofNat 32 x3 := by
        unfold nextW beW
        rw [if_pos h16, h0, h1, h2, h3]
      have o1 := wd_or (BitVec.ofNat 32 x0 <<< 24) (BitVec.ofNat 32 x1 <<< 16)
      have o2 := wd_or (BitVec.ofNat 32 x0 <<< 24 ||| BitVec.ofNat 32 x1 <<< 16) (BitVec.ofNat 32 x2 <<< 8)
      have o3 := wd_or (BitVec.ofNat 32 x0 <<< 24 ||| BitVec.ofNat 32 x1 <<< 16 ||| BitVec.ofNat 32 x2 <<< 8) (BitVec.ofNat 32 x3)
      rw [← hnx] at o3
      rw [e3] at o3
      obtain ⟨A0, hA0⟩ : ∃ A, (BitVec.ofNat 32 x0 <<< 24 : Wd).toNat = A := ⟨_, rfl⟩
      obtain ⟨A1, hA1⟩ : ∃ A, (BitVec.ofNat 32 x1 <<< 16 : Wd).toNat = A := ⟨_, rfl⟩
      obtain ⟨A2, hA2⟩ : ∃ A, (BitVec.ofNat 32 x2 <<< 8 : Wd).toNat = A := ⟨_, rfl⟩
      obtain ⟨O1, hO1⟩ : ∃ A, (BitVec.ofNat 32 x0 <<< 24 ||| BitVec.ofNat 32 x1 <<< 16 : Wd).toNat = A := ⟨_, rfl⟩
      obtain ⟨O2, hO2⟩ : ∃ A, (BitVec.ofNat 32 x0 <<< 24 ||| BitVec.ofNat 32 x1 <<< 16 ||| BitVec.ofNat 32 x2 <<< 8 : Wd).toNat = A := ⟨_, rfl⟩
      rw [hA0, hA1, hO1] at o1
      rw [hO1, hA2, hO2] at o2
      rw [hO2] at o3
      rw [hA0] at e0
      rw [hA1] at e1
      rw [hA2] at e2
      obtain ⟨O3, hO3⟩ : ∃ A, (nextW b (wordsN b i) i).toNat = A := ⟨_, rfl⟩
      rw [hO3] at o3
      have hO3' := Lib.hid hO3
      have hO3b : O3 < 4294967296 := by rw [← hO3]; exact wd_lt _
      have hA0b : A0 < 4294967296 := by omega
      have f0 : (x0 : Int) * 16777216 = (A0 : Int) := e0.symm
      have f1 : (x1 : Int) * 65536 = (A1 : Int) := e1.symm
      have f2 : (x2 : Int) * 256 = (A2 : Int) := e2.symm
      clear hx h0 h1 h2 h3 e0 e1 e2 e3 hnx hA0 hA1 hA2 hO1 hO2 hO3
      have hown' := hown
      go_upto_region 6 with fail
      refine Sched.wp_region_sched 35 (fun W W' => Below W.heap.size W W') (VK [.val (.slice xo i co), .val (.slice (some ⟨g, o, none⟩) 64 cb), .val (.int .i64 i), .val (.int .i64 (4 * i)), .val (.pointer (some ⟨g, o + 4 * i, none⟩)), .val (.int .u8 x0), .val (.int .u32 x0), .val (.int .u32 A0), .val (.slice (some ⟨g, o, none⟩) 64 cb), .val (.int .i64 i), .val (.int .i64 (4 * i)), .val (.int .i64 (4 * i + 1)), .val (.pointer (some ⟨g, o + (4 * i + 1), none⟩)), .val (.int .u8 x1), .val (.int .u32 x1), .val (.int .u32 A1), .val (.int .u32 O1), .val (.slice (some ⟨g, o, none⟩) 64 cb), .val (.int .i64 i), .val (.int .i64 (4 * i)), .val (.int .i64 (4 * i + 2)), .val (.pointer (some ⟨g, o + (4 * i + 2), none⟩)), .val (.int .u8 x2), .val (.int .u32 x2), .val (.int .u32 A2), .val (.int .u32 O2), .val (.slice (some ⟨g, o, none⟩) 64 cb), .val (.int .i64 i), .val (.int .i64 (4 * i)), .val (.int .i64 (4 * i + 3)), .val (.pointer (some ⟨g, o + (4 * i + 3), none⟩)), .val (.int .u8 x3), .val (.int .u32 x3), .val (.int .u32 O3), .of (fun v w => ∃ g : Nat, v = .slice (some ⟨g, 0, none⟩) 1 1 ∧ wi.heap.size ≤ g ∧ At w g 39 #[.int .u32 O3]) (fun ⟨g, e, hg, h⟩ hb => ⟨g, e, hg, h.keep hb h.inside⟩)]) (fun _ _ _ => True) (by kernel_rfl) (by kernel_rfl) (by kernel_rfl) (fun h1 h2 => belowTr h1 h2) (fun h1 h2 => VK.keep h1 h2) (Below.refl _ _).drew (fun _ => trivial) (Sched.StepsA.steps (by kernel_rfl) ?hSA) ?hQA
      case hSA =>
       simp only [List.take_succ_cons, List.take_zero]
       refine ⟨?_, ?_, ?_, ?_, ?_, ?_, ?_, ?_, ?_, ?_, ?_, ?_, ?_, ?_, ?_, ?_, ?_, ?_, ?_, ?_, ?_, ?_, ?_, ?_, ?_, ?_, ?_, ?_, ?_, ?_, ?_, ?_, ?_, ?_, ?_, trivial⟩
       · intro ys done W aa hE hn hF hD hZ hG hO
         replace hE : Below wi.heap.size wi W := hE
         have o3 := hO 3 (by kernel_rfl)
         replace o3 : aa.tmps[3]? = some (.slice xo i co) := o3
         go_wp2_with fail
         first | exact ⟨_, rfl, Below.refl _ _, VK.val rfl rfl, trivial⟩ | exact ⟨_, rfl, Below.refl _ _, VK.val rfl rfl⟩
       · intro ys done W aa hE hn hF hD hZ hG hO
         replace hE : Below wi.heap.size wi W := hE
         have o0 := hO 0 (by kernel_rfl)
         replace o0 : aa.tmps[0]? = some (.slice (some ⟨g, o, none⟩) 64 cb) := o0
         go_wp2_with fail
         first | exact ⟨_, rfl, Below.refl _ _, VK.val rfl rfl, trivial⟩ | exact ⟨_, rfl, Below.refl _ _, VK.val rfl rfl⟩
       · intro ys done W aa hE hn hF hD hZ hG hO
         replace hE : Below wi.heap.size wi W := hE
         have o4 := hO 4 (by kernel_rfl)
         replace o4 : aa.tmps[4]? = some (.int .i64 i) := o4
         go_wp2_with fail
         first | exact ⟨_, rfl, Below.refl _ _, VK.val rfl rfl, trivial⟩ | exact ⟨_, rfl, Below.refl _ _, VK.val rfl rfl⟩
       · intro ys done W aa hE hn hF hD hZ hG hO
         replace hE : Below wi.heap.size wi W := hE
         have v2 := (hF 2 (by decide) (hD 2 (by kernel_rfl))).eq rfl
         have g2 := hG 2 17 rfl (Nat.le_of_ble_eq_true rfl)
         rw [v2] at g2
         go_wp2_with fail
         first | exact ⟨_, rfl, Below.refl _ _, VK.val rfl rfl, trivial⟩ | exact ⟨_, rfl, Below.refl _ _, VK.val rfl rfl⟩
       · intro ys done W aa hE hn hF hD hZ hG hO
         replace hE : Below wi.heap.size wi W := hE
         have v1 := (hF 1 (by decide) (hD 1 (by kernel_rfl))).eq rfl
         have g1 := hG 1 16 rfl (Nat.le_of_ble_eq_true rfl)
         rw [v1] at g1
         have v3 := (hF 3 (by decide) (hD 3 (by kernel_rfl))).eq rfl
         have g3 := hG 3 18 rfl (Nat.le_of_ble_eq_true rfl)
         rw [v3] at g3
         go_wp2_with fail
         first | exact ⟨_, rfl, Below.refl _ _, VK.val rfl rfl, trivial⟩ | exact ⟨_, rfl, Below.refl _ _, VK.val rfl rfl⟩
       · intro ys done W aa hE hn hF hD hZ hG hO
         replace hE : Below wi.heap.size wi W := hE
         have v4 := (hF 4 (by decide) (hD 4 (by kernel_rfl))).eq rfl
         have g4 := hG 4 19 rfl (Nat.le_of_ble_eq_true rfl)
         rw [v4] at g4
         have z0 := (hE.cell (p := ⟨g, o + 4 * i, none⟩) hgi).trans q0
         go_wp2_with fail
         first | exact ⟨_, rfl, Below.refl _ _, VK.val rfl rfl, trivial⟩ | exact ⟨_, rfl, Below.refl _ _, VK.val rfl rfl⟩
       · intro ys done W aa hE hn hF hD hZ hG hO
         replace hE : Below wi.heap.size wi W := hE
         have v5 := (hF 5 (by decide) (hD 5 (by kernel_rfl))).eq rfl
         have g5 := hG 5 20 rfl (Nat.le_of_ble_eq_true rfl)
         rw [v5] at g5
         go_wp2_with fail
         first | exact ⟨_, rfl, Below.refl _ _, VK.val rfl rfl, trivial⟩ | exact ⟨_, rfl, Below.refl _ _, VK.val rfl rfl⟩
       · intro ys done W aa hE hn hF hD hZ hG hO
         replace hE : Below wi.heap.size wi W := hE
         have v6 := (hF 6 (by decide) (hD 6 (by kernel_rfl))).eq rfl
         have g6 := hG 6 21 rfl (Nat.le_of_ble_eq_true rfl)
         rw [v6] at g6
         go_wp2_with fail
         first | exact ⟨_, rfl, Below.refl _ _, VK.val rfl rfl, trivial⟩ | exact ⟨_, rfl, Below.refl _ _, VK.val rfl rfl⟩
       · intro ys done W aa hE hn hF hD hZ hG hO
         replace hE : Below wi.heap.size wi W := hE
         have o0 := hO 0 (by kernel_rfl)
         replace o0 : aa.tmps[0]? = some (.slice (some ⟨g, o, none⟩) 64 cb) := o0
         go_wp2_with fail
         first | exact ⟨_, rfl, Below.refl _ _, VK.val rfl rfl, trivial⟩ | exact ⟨_, rfl, Below.refl _ _, VK.val rfl rfl⟩
       · intro ys done W aa hE hn hF hD hZ hG hO
         replace hE : Below wi.heap.size wi W := hE
         have o4 := hO 4 (by kernel_rfl)
         replace o4 : aa.tmps[4]? = some (.int .i64 i) := o4
         go_wp2_with fail
         first | exact ⟨_, rfl, Below.refl _ _, VK.val rfl rfl, trivial⟩ | exact ⟨_, rfl, Below.refl _ _, VK.val rfl rfl⟩
       · intro ys done W aa hE hn hF hD hZ hG hO
         replace hE : Below wi.heap.size wi W := hE
         have v9 := (hF 9 (by decide) (hD 9 (by kernel_rfl))).eq rfl
         have g9 := hG 9 24 rfl (Nat.le_of_ble_eq_true rfl)
         rw [v9] at g9
         go_wp2_with fail
         first | exact ⟨_, rfl, Below.refl _ _, VK.val rfl rfl, trivial⟩ | exact ⟨_, rfl, Below.refl _ _, VK.val rfl rfl⟩
       · intro ys done W aa hE hn hF hD hZ hG hO
         replace hE : Below wi.heap.size wi W := hE
         have v10 := (hF 10 (by decide) (hD 10 (by kernel_rfl))).eq rfl
         have g10 := hG 10 25 rfl (Nat.le_of_ble_eq_true rfl)
         rw [v10] at g10
         go_wp2_with fail
         first | exact ⟨_, rfl, Below.refl _ _, VK.val rfl rfl, trivial⟩ | exact ⟨_, rfl, Below.refl _ _, VK.val rfl rfl⟩
       · intro ys done W aa hE hn hF hD hZ hG hO
         replace hE : Below wi.heap.size wi W := hE
         have v8 := (hF 8 (by decide) (hD 8 (by kernel_rfl))).eq rfl
         have g8 := hG 8 23 rfl (Nat.le_of_ble_eq_true rfl)
         rw [v8] at g8
         have v11 := (hF 11 (by decide) (hD 11 (by kernel_rfl))).eq rfl
         have g11 := hG 11 26 rfl (Nat.le_of_ble_eq_true rfl)
         rw [v11] at g11
         go_wp2_with fail
         first | exact ⟨_, rfl, Below.refl _ _, VK.val rfl rfl, trivial⟩ | exact ⟨_, rfl, Below.refl _ _, VK.val rfl rfl⟩
       · intro ys done W aa hE hn hF hD hZ hG hO
         replace hE : Below wi.heap.size wi W := hE
         have v12 := (hF 12 (by decide) (hD 12 (by kernel_rfl))).eq rfl
         have g12 := hG 12 27 rfl (Nat.le_of_ble_eq_true rfl)
         rw [v12] at g12
         have z0 := (hE.cell (p := ⟨g, o + (4 * i + 1), none⟩) hgi).trans q1
         go_wp2_with fail
         first | exact ⟨_, rfl, Below.refl _ _, VK.val rfl rfl, trivial⟩ | exact ⟨_, rfl, Below.refl _ _, VK.val rfl rfl⟩
       · intro ys done W aa hE hn hF hD hZ hG hO
         replace hE : Below wi.heap.size wi W := hE
         have v13 := (hF 13 (by decide) (hD 13 (by kernel_rfl))).eq rfl
         have g13 := hG 13 28 rfl (Nat.le_of_ble_eq_true rfl)
         rw [v13] at g13
         go_wp2_with fail
         first | exact ⟨_, rfl, Below.refl _ _, VK.val rfl rfl, trivial⟩ | exact ⟨_, rfl, Below.refl _ _, VK.val rfl rfl⟩
       · intro ys done W aa hE hn hF hD hZ hG hO
         replace hE : Below wi.heap.size wi W := hE
         have v14 := (hF 14 (by decide) (hD 14 (by kernel_rfl))).eq rfl
         have g14 := hG 14 29 rfl (Nat.le_of_ble_eq_true rfl)
         rw [v14] at g14
         go_wp2_with fail
         first | exact ⟨_, rfl, Below.refl _ _, VK.val rfl rfl, trivial⟩ | exact ⟨_, rfl, Below.refl _ _, VK.val rfl rfl⟩
       · intro ys done W aa hE hn hF hD hZ hG hO
         replace hE : Below wi.heap.size wi W := hE
         have v7 := (hF 7 (by decide) (hD 7 (by kernel_rfl))).eq rfl
         have g7 := hG 7 22 rfl (Nat.le_of_ble_eq_true rfl)
         rw [v7] at g7
         have v15 := (hF 15 (by decide) (hD 15 (by kernel_rfl))).eq rfl
         have g15 := hG 15 30 rfl (Nat.le_of_ble_eq_true rfl)
         rw [v15] at g15
         go_wp2_with fail
         first | exact ⟨_, rfl, Below.refl _ _, VK.val rfl rfl, trivial⟩ | exact ⟨_, rfl, Below.refl _ _, VK.val rfl rfl⟩
       · intro ys done W aa hE hn hF hD hZ hG hO
         replace hE : Below wi.heap.size wi W := hE
         have o0 := hO 0 (by kernel_rfl)
         replace o0 : aa.tmps[0]? = some (.slice (some ⟨g, o, none⟩) 64 cb) := o0
         go_wp2_with fail
         first | exact ⟨_, rfl, Below.refl _ _, VK.val rfl rfl, trivial⟩ | exact ⟨_, rfl, Below.refl _ _, VK.val rfl rfl⟩
       · intro ys done W aa hE hn hF hD hZ hG hO
         replace hE : Below wi.heap.size wi W := hE
         have o4 := hO 4 (by kernel_rfl)
         replace o4 : aa.tmps[4]? = some (.int .i64 i) := o4
         go_wp2_with fail
         first | exact ⟨_, rfl, Below.refl _ _, VK.val rfl rfl, trivial⟩ | exact ⟨_, rfl, Below.refl _ _, VK.val rfl rfl⟩
       · intro ys done W aa hE hn hF hD hZ hG hO
         replace hE : Below wi.heap.size wi W := hE
         have v18 := (hF 18 (by decide) (hD 18 (by kernel_rfl))).eq rfl
         have g18 := hG 18 33 rfl (Nat.le_of_ble_eq_true rfl)
         rw [v18] at g18
         go_wp2_with fail
         first | exact ⟨_, rfl, Below.refl _ _, VK.val rfl rfl, trivial⟩ | exact ⟨_, rfl, Below.refl _ _, VK.val rfl rfl⟩
       · intro ys done W aa hE hn hF hD hZ hG hO
         replace hE : Below wi.heap.size wi W := hE
         have v19 := (hF 19 (by decide) (hD 19 (by kernel_rfl))).eq rfl
         have g19 := hG 19 34 rfl (Nat.le_of_ble_eq_true rfl)
         rw [v19] at g19
         go_wp2_with fail
         first | exact ⟨_, rfl, Below.refl _ _, VK.val rfl rfl, trivial⟩ | exact ⟨_, rfl, Below.refl _ _, VK.val rfl rfl⟩
       · intro ys done W aa hE hn hF hD hZ hG hO
         replace hE : Below wi.heap.size wi W := hE
         have v17 := (hF 17 (by decide) (hD 17 (by kernel_rfl))).eq rfl
         have g17 := hG 17 32 rfl (Nat.le_of_ble_eq_true rfl)
         rw [v17] at g17
         have v20 := (hF 20 (by decide) (hD 20 (by kernel_rfl))).eq rfl
         have g20 := hG 20 35 rfl (Nat.le_of_ble_eq_true rfl)
         rw [v20] at g20
         go_wp2_with fail
         first | exact ⟨_, rfl, Below.refl _ _, VK.val rfl rfl, trivial⟩ | exact ⟨_, rfl, Below.refl _ _, VK.val rfl rfl⟩
       · intro ys done W aa hE hn hF hD hZ hG hO
         replace hE : Below wi.heap.size wi W := hE
         have v21 := (hF 21 (by decide) (hD 21 (by kernel_rfl))).eq rfl
         have g21 := hG 21 36 rfl (Nat.le_of_ble_eq_true rfl)
         rw [v21] at g21
         have z0 := (hE.cell (p := ⟨g, o + (4 * i + 2), none⟩) hgi).trans q2
         go_wp2_with fail
         first | exact ⟨_, rfl, Below.refl _ _, VK.val rfl rfl, trivial⟩ | exact ⟨_, rfl, Below.refl _ _, VK.val rfl rfl⟩
       · intro ys done W aa hE hn hF hD hZ hG hO
         replace hE : Below wi.heap.size wi W := hE
         have v22 := (hF 22 (by decide) (hD 22 (by kernel_rfl))).eq rfl
         have g22 := hG 22 37 rfl (Nat.le_of_ble_eq_true rfl)
         rw [v22] at g22
         go_wp2_with fail
         first | exact ⟨_, rfl, Below.refl _ _, VK.val rfl rfl, trivial⟩ | exact ⟨_, rfl, Below.refl _ _, VK.val rfl rfl⟩
       · intro ys done W aa hE hn hF hD hZ hG hO
         replace hE : Below wi.heap.size wi W := hE
         have v23 := (hF 23 (by decide) (hD 23 (by kernel_rfl))).eq rfl
         have g23 := hG 23 38 rfl (Nat.le_of_ble_eq_true rfl)
         rw [v23] at g23
         go_wp2_with fail
         first | exact ⟨_, rfl, Below.refl _ _, VK.val rfl rfl, trivial⟩ | exact ⟨_, rfl, Below.refl _ _, VK.val rfl rfl⟩
       · intro ys done W aa hE hn hF hD hZ hG hO
         replace hE : Below wi.heap.size wi W := hE
         have v16 := (hF 16 (by decide) (hD 16 (by kernel_rfl))).eq rfl
         have g16 := hG 16 31 rfl (Nat.le_of_ble_eq_true rfl)
         rw [v16] at g16
         have v24 := (hF 24 (by decide) (hD 24 (by kernel_rfl))).eq rfl
         have g24 := hG 24 39 rfl (Nat.le_of_ble_eq_true rfl)
         rw [v24] at g24
         go_wp2_with fail
         first | exact ⟨_, rfl, Below.refl _ _, VK.val rfl rfl, trivial⟩ | exact ⟨_, rfl, Below.refl _ _, VK.val rfl rfl⟩
       · intro ys done W aa hE hn hF hD hZ hG hO
         replace hE : Below wi.heap.size wi W := hE
         have o0 := hO 0 (by kernel_rfl)
         replace o0 : aa.tmps[0]? = some (.slice (some ⟨g, o, none⟩) 64 cb) := o0
         go_wp2_with fail
         first | exact ⟨_, rfl, Below.refl _ _, VK.val rfl rfl, trivial⟩ | exact ⟨_, rfl, Below.refl _ _, VK.val rfl rfl⟩
       · intro ys done W aa hE hn hF hD hZ hG hO
         replace hE : Below wi.heap.size wi W := hE
         have o4 := hO 4 (by kernel_rfl)
         replace o4 : aa.tmps[4]? = some (.int .i64 i) := o4
         go_wp2_with fail
         first | exact ⟨_, rfl, Below.refl _ _, VK.val rfl rfl, trivial⟩ | exact ⟨_, rfl, Below.refl _ _, VK.val rfl rfl⟩
       · intro ys done W aa hE hn hF hD hZ hG hO
         replace hE : Below wi.heap.size wi W := hE
         have v27 := (hF 27 (by decide) (hD 27 (by kernel_rfl))).eq rfl
         have g27 := hG 27 42 rfl (Nat.le_of_ble_eq_true rfl)
         rw [v27] at g27
         go_wp2_with fail
         first | exact ⟨_, rfl, Below.refl _ _, VK.val rfl rfl, trivial⟩ | exact ⟨_, rfl, Below.refl _ _, VK.val rfl rfl⟩
       · intro ys done W aa hE hn hF hD hZ hG hO
         replace hE : Below wi.heap.size wi W := hE
         have v28 := (hF 28 (by decide) (hD 28 (by kernel_rfl))).eq rfl
         have g28 := hG 28 43 rfl (Nat.le_of_ble_eq_true rfl)
         rw [v28] at g28
         go_wp2_with fail
         first | exact ⟨_, rfl, Below.refl _ _, VK.val rfl rfl, trivial⟩ | exact ⟨_, rfl, Below.refl _ _, VK.val rfl rfl⟩
       · intro ys done W aa hE hn hF hD hZ hG hO
         replace hE : Below wi.heap.size wi W := hE
         have v26 := (hF 26 (by decide) (hD 26 (by kernel_rfl))).eq rfl
         have g26 := hG 26 41 rfl (Nat.le_of_ble_eq_true rfl)
         rw [v26] at g26
         have v29 := (hF 29 (by decide) (hD 29 (by kernel_rfl))).eq rfl
         have g29 := hG 29 44 rfl (Nat.le_of_ble_eq_true rfl)
         rw [v29] at g29
         go_wp2_with fail
         first | exact ⟨_, rfl, Below.refl _ _, VK.val rfl rfl, trivial⟩ | exact ⟨_, rfl, Below.refl _ _, VK.val rfl rfl⟩
       · intro ys done W aa hE hn hF hD hZ hG hO
         replace hE : Below wi.heap.size wi W := hE
         have v30 := (hF 30 (by decide) (hD 30 (by kernel_rfl))).eq rfl
         have g30 := hG 30 45 rfl (Nat.le_of_ble_eq_true rfl)
         rw [v30] at g30
         have z0 := (hE.cell (p := ⟨g, o + (4 * i + 3), none⟩) hgi).trans q3
         go_wp2_with fail
         first | exact ⟨_, rfl, Below.refl _ _, VK.val rfl rfl, trivial⟩ | exact ⟨_, rfl, Below.refl _ _, VK.val rfl rfl⟩
       · intro ys done W aa hE hn hF hD hZ hG hO
         replace hE : Below wi.heap.size wi W := hE
         have v31 := (hF 31 (by decide) (hD 31 (by kernel_rfl))).eq rfl
         have g31 := hG 31 46 rfl (Nat.le_of_ble_eq_true rfl)
         rw [v31] at g31
         go_wp2_with fail
         first | exact ⟨_, rfl, Below.refl _ _, VK.val rfl rfl, trivial⟩ | exact ⟨_, rfl, Below.refl _ _, VK.val rfl rfl⟩
       · intro ys done W aa hE hn hF hD hZ hG hO
         replace hE : Below wi.heap.size wi W := hE
         have v25 := (hF 25 (by decide) (hD 25 (by kernel_rfl))).eq rfl
         have g25 := hG 25 40 rfl (Nat.le_of_ble_eq_true rfl)
         rw [v25] at g25
         have v32 := (hF 32 (by decide) (hD 32 (by kernel_rfl))).eq rfl
         have g32 := hG 32 47 rfl (Nat.le_of_ble_eq_true rfl)
         rw [v32] at g32
         go_wp2_with fail
         first | exact ⟨_, rfl, Below.refl _ _, VK.val rfl rfl, trivial⟩ | exact ⟨_, rfl, Below.refl _ _, VK.val rfl rfl⟩
       · intro ys done W aa hE hn hF hD hZ hG hO
         replace hE : Below wi.heap.size wi W := hE
         have v33 := (hF 33 (by decide) (hD 33 (by kernel_rfl))).eq rfl
         have g33 := hG 33 48 rfl (Nat.le_of_ble_eq_true rfl)
         rw [v33] at g33
         go_wp2_with fail
         first | exact ⟨_, rfl, (Below.refl _ _).alloc (Nat.le_refl _) _, VK.of rfl ⟨_, rfl, hE.size, At.new _ _ _⟩, trivial⟩ | exact ⟨_, rfl, (Below.refl _ _).alloc (Nat.le_refl _) _, VK.of rfl ⟨_, rfl, hE.size, At.new _ _ _⟩⟩
      case hQA =>
       intro ys w2 hE hF _
       replace hE : Below wi.heap.size wi w2 := hE
       have v0 := (hF 0 (by decide)).eq rfl
       have vb := (hF 34 (by decide)).get rfl
       obtain ⟨g6, e6, hg6, hA6⟩ := vb
       simp only [List.take_succ_cons, List.take_zero, List.drop_succ_cons, List.drop_zero, Sched.fill, v0, e6]
       have hown2 := owns_below hown'.out hE
       have hrw := Lib.hid (owns_row hown2)
       have hB2 := Lib.hid (hbw.out.trans (hE.mono hsz))
       have hs2 := hB2.out.size
       clear hF e6 hE v0
       go_simp
       go_wp2_with (at_builtin; refine wpList_append_own _ rfl _ _ 41 rfl w.heap.size 39 i0 (.int .u32 0) 1 4 Tryd.underlying41 hi hz0 hz1 hz2 rfl (by decide) _ _ _ rfl hown2 ⟨g6, 0, none⟩ 1 1 [.int .u32 (O3 : Int)] rfl rfl (World.news_of_block (cs := #[.int .u32 (O3 : Int)]) (t := 39) (fr := (0, 0)) hA6) (by simp [Value.oneCell']) (by unfold maxLen; omega) (by omega) (by omega) ?_; intro v9 w9 hown9 hgrow9 hnil9)
       have hB9 := Lib.hid (hB2.out.grown hgrow9 (by omega) (fun r e => hrw.out r e))
       have hown9' := Lib.hid hown9
       clear hown9 hgrow9 hnil9 hown2 hA6
       go_wp2
       go_roundw
       case rel => exact ⟨i + 1, by go_num, by omega, Lib.hid (by rw [hnw.out, List.map_append]; have h := hown9'.out; rw [← hO3'.out] at h; exact h), hB9⟩
       case measure => simp [intOf]; omega

    · obtain ⟨j, rfl⟩ : ∃ j, i = j + 16 := ⟨i - 16, by omega⟩
      have h16i : ¬ (((j + 16 : Nat) : Int) < 16) := by omega
      have hlen := wordsN_len b (j + 16)
      obtain ⟨ws, hws⟩ : ∃ ws, wordsN b (j + 16) = ws := ⟨_, rfl⟩
      have hown' := Lib.hid (show wi.ownsRow w.heap.size 39 1 (.slice xo (j + 16) co) (j + 16) (ws.map u32V) by rw [← hws]; exact hown.out)
      rw [hws] at hlen hnw
      have hat := fun (k : Nat) (hk : k < j + 16) => one_at (f := u32V) (row_one u32V hown'.out hlen.symm) (k := k) (p := ws[k]'(by omega)) (List.getElem?_eq_getElem _)
      obtain ⟨gx, ox, rfl, hgx, d1⟩ := hat (j + 1) (by omega)
      obtain ⟨gx', ox', ex, -, d2⟩ := hat (j + 14) (by omega)
      cases ex
      obtain ⟨gx', ox', ex, -, d3⟩ := hat (j + 9) (by omega)
      cases ex
      obtain ⟨gx', ox', ex, -, d4⟩ := hat j (by omega)
      cases ex
      have hnx : nextW b ws (j + 16) = s1w (ws[j + 14]'(by omega)) + ws[j + 9]'(by omega) + s0w (ws[j + 1]'(by omega)) + ws[j]'(by omega) := by
        unfold nextW
        rw [if_neg (by omega)]
        simp [List.getD, List.getElem?_eq_getElem (show j + 14 < ws.length by omega), List.getElem?_eq_getElem (show j + 9 < ws.length by omega), List.getElem?_eq_getElem (show j + 1 < ws.length by omega), List.getElem?_eq_getElem (show j < ws.length by omega)]
      generalize ws[j + 1]'(by omega) = x at d1 hnx
      generalize ws[j + 14]'(by omega) = y at d2 hnx
      generalize ws[j + 9]'(by omega) = z at d3 hnx
      generalize ws[j]'(by omega) = t at d4 hnx
      unfold u32V at d1 d2 d3 d4
      have hO3' : Hid ((nextW b ws (j + 16)).toNat = (s1w y + z + s0w x + t).toNat) := Lib.hid (by rw [hnx])
      have a1 := wd_xor (rotr x 7) (rotr x 18)
      have a2 : (x.toNat : Int) / (8 : Int) = ((x >>> 3).toNat : Int) := wd_shr x 3
      have a3 : bits .xor .u32 ((rotr x 7 ^^^ rotr x 18).toNat : Int) ((x >>> 3).toNat : Int) = ((s0w x).toNat : Int) := wd_xor _ _
      have b1 := wd_xor (rotr y 17) (rotr y 19)
      have b2 : (y.toNat : Int) / (1024 : Int) = ((y >>> 10).toNat : Int) := wd_shr y 10
      have b3 : bits .xor .u32 ((rotr y 17 ^^^ rotr y 19).toNat : Int) ((y >>> 10).toNat : Int) = ((s1w y).toNat : Int) := wd_xor _ _
      have c1 := wd_addm (s1w y) z
      have c2 := wd_addm (s1w y + z) (s0w x)
      have c3 := wd_addm (s1w y + z + s0w x) t
      have r7 : ∀ W, Calls Tryd.prog 26 #[.int .u32 (x.toNat : Int), .int .u64 7] W fun e w' => e = .returned (.int .u32 ((rotr x 7).toNat : Int)) ∧ w' = W := rotr_any x 7 (by decide)
      have r18 : ∀ W, Calls Tryd.prog 26 #[.int .u32 (x.toNat : Int), .int .u64 18] W fun e w' => e = .returned (.int .u32 ((rotr x 18).toNat : Int)) ∧ w' = W := rotr_any x 18 (by decide)
      have r17 : ∀ W, Calls Tryd.prog 26 #[.int .u32 (y.toNat : Int), .int .u64 17] W fun e w' => e = .returned (.int .u32 ((rotr y 17).toNat : Int)) ∧ w' = W := rotr_any y 17 (by decide)
      have r19 : ∀ W, Calls Tryd.prog 26 #[.int .u32 (y.toNat : Int), .int .u64 19] W fun e w' => e = .returned (.int .u32 ((rotr y 19).toNat : Int)) ∧ w' = W := rotr_any y 19 (by decide)
      generalize rotr x 7 = p7 at *
      generalize rotr x 18 = p18 at *
      generalize rotr y 17 = p17 at *
      generalize rotr y 19 = p19 at *
      clear hnx hat hws hown
      generalize (p7 ^^^ p18).toNat = XA at a1 a3
      generalize (p17 ^^^ p19).toNat = YA at b1 b3
      generalize p7.toNat = P7 at a1 r7
      generalize p18.toNat = P18 at a1 r18
      generalize p17.toNat = P17 at b1 r17
      generalize p19.toNat = P19 at b1 r19
      generalize (x >>> 3).toNat = X3 at a2 a3
      generalize (y >>> 10).toNat = Y3 at b2 b3
      generalize (s1w y + z + s0w x + t).toNat = N3 at c3 hO3'
      generalize (s1w y + z + s0w x).toNat = N2 at c2 c3
      generalize (s1w y + z).toNat = N1 at c1 c2
      generalize (s0w x).toNat = S0 at a3 c2
      generalize (s1w y).toNat = S1 at b3 c1
      generalize x.toNat = X at a2 r7 r18 d1
      generalize y.toNat = Y at b2 r17 r19 d2
      generalize z.toNat = Z at c1 d3
      generalize t.toNat = T at c3 d4
      have k1 := cell_regrown d1
      have k2 := cell_regrown d2
      have k3 := cell_regrown d3
      have k4 := cell_regrown d4
      have hj48 : (j : Int) < 48 := by omega
      go_upto_region 7 with fail
      clear d1 d2 d3 d4
      refine wp_region_quiet_below (by kernel_rfl) (by kernel_rfl) ?_
      repeat (go_big_quiet_step (fail))
      refine wpQuiet_nil ?_
      intro _ hw'
      obtain ⟨⟨dr, osr⟩, hw''⟩ := hw'
      subst hw''
      have hgr := below_regrown wi dr osr
      have hownK := Lib.hid (owns_below hown'.out hgr)
      have hbwK := Lib.hid (hbw.out.trans (hgr.mono hsz))
      have hszK := hbwK.out.size
      have hgx2 : gx < (grow (redrawn wi dr) osr).heap.size := Nat.lt_of_lt_of_le hgx hgr.size
      have e1 := k1 dr osr
      have e2 := k2 dr osr
      have e3 := k3 dr osr
      have e4 := k4 dr osr
      clear hgr k1 k2 k3 k4 hown' hbw
      generalize grow (redrawn wi dr) osr = wk at *
      go_wp2_with fail
      refine (r7 _).mono ?_
      rintro e w' ⟨rfl, rfl⟩
      go_wp2_with fail
      refine (r18 _).mono ?_
      rintro e w' ⟨rfl, rfl⟩
      go_wp2_with fail
      refine (r17 _).mono ?_
      rintro e w' ⟨rfl, rfl⟩
      go_wp2_with fail
      refine (r19 _).mono ?_
      rintro e w' ⟨rfl, rfl⟩
      clear r7 r18 r17 r19
      obtain ⟨wk, hwk⟩ : ∃ wk, wk = w' := ⟨_, rfl⟩
      subst hwk
      go_upto_region 10 with fail
      refine Sched.wp_region_sched 17 (fun W W' => Below W.heap.size W W') (VK [.val (.slice (some ⟨gx, ox, none⟩) (j + 16) co), .val (.int .u32 S1), .val (.slice (some ⟨gx, ox, none⟩) (j + 16) co), .val (.int .i64 ((j : Int) + 16)), .val (.int .i64 ((j : Int) + 9)), .val (.pointer (some ⟨gx, ox + (j + 9), none⟩)), .val (.int .u32 Z), .val (.int .u32 N1), .val (.int .u32 S0), .val (.int .u32 N2), .val (.slice (some ⟨gx, ox, none⟩) (j + 16) co), .val (.int .i64 ((j : Int) + 16)), .val (.int .i64 (j : Int)), .val (.pointer (some ⟨gx, ox + j, none⟩)), .val (.int .u32 T), .val (.int .u32 N3), .of (fun v w => ∃ g : Nat, v = .slice (some ⟨g, 0, none⟩) 1 1 ∧ wk.heap.size ≤ g ∧ At w g 39 #[.int .u32 N3]) (fun ⟨g, e, hg, h⟩ hb => ⟨g, e, hg, h.keep hb h.inside⟩)]) (fun _ _ _ => True) (by kernel_rfl) (by kernel_rfl) (by kernel_rfl) (fun h1 h2 => belowTr h1 h2) (fun h1 h2 => VK.keep h1 h2) (Below.refl _ _).drew (fun _ => trivial) (Sched.StepsA.steps (by kernel_rfl) ?hSB) ?hQB
      case hSB =>
       simp only [List.take_succ_cons, List.take_zero]
       refine ⟨?_, ?_, ?_, ?_, ?_, ?_, ?_, ?_, ?_, ?_, ?_, ?_, ?_, ?_, ?_, ?_, ?_, trivial⟩
       · intro ys done W aa hE hn hF hD hZ hG hO
         replace hE : Below wk.heap.size wk W := hE
         have o3 := hO 3 (by kernel_rfl)
         replace o3 : aa.tmps[3]? = some (.slice (some ⟨gx, ox, none⟩) (j + 16) co) := o3
         go_wp2_with fail
         first | exact ⟨_, rfl, Below.refl _ _, VK.val rfl rfl, trivial⟩ | exact ⟨_, rfl, Below.refl _ _, VK.val rfl rfl⟩
       · intro ys done W aa hE hn hF hD hZ hG hO
         replace hE : Below wk.heap.size wk W := hE
         have o8 := hO 8 (by kernel_rfl)
         replace o8 : aa.tmps[8]? = some (.int .u32 S1) := o8
         go_wp2_with fail
         first | exact ⟨_, rfl, Below.refl _ _, VK.val rfl rfl, trivial⟩ | exact ⟨_, rfl, Below.refl _ _, VK.val rfl rfl⟩
       · intro ys done W aa hE hn hF hD hZ hG hO
         replace hE : Below wk.heap.size wk W := hE
         have o3 := hO 3 (by kernel_rfl)
         replace o3 : aa.tmps[3]? = some (.slice (some ⟨gx, ox, none⟩) (j + 16) co) := o3
         go_wp2_with fail
         first | exact ⟨_, rfl, Below.refl _ _, VK.val rfl rfl, trivial⟩ | exact ⟨_, rfl, Below.refl _ _, VK.val rfl rfl⟩
       · intro ys done W aa hE hn hF hD hZ hG hO
         replace hE : Below wk.heap.size wk W := hE
         have o4 := hO 4 (by kernel_rfl)
         replace o4 : aa.tmps[4]? = some (.int .i64 ((j : Int) + 16)) := o4
         go_wp2_with fail
         first | exact ⟨_, rfl, Below.refl _ _, VK.val rfl rfl, trivial⟩ | exact ⟨_, rfl, Below.refl _ _, VK.val rfl rfl⟩
       · intro ys done W aa hE hn hF hD hZ hG hO
         replace hE : Below wk.heap.size wk W := hE
         have v3 := (hF 3 (by decide) (hD 3 (by kernel_rfl))).eq rfl
         have g3 := hG 3 80 rfl (Nat.le_of_ble_eq_true rfl)
         rw [v3] at g3
         have ea : (j : Int) + 16 - 7 = (j : Int) + 9 := by omega
         go_wp2_with fail
         first | exact ⟨_, rfl, Below.refl _ _, VK.val rfl rfl, trivial⟩ | exact ⟨_, rfl, Below.refl _ _, VK.val rfl rfl⟩
       · intro ys done W aa hE hn hF hD hZ hG hO
         replace hE : Below wk.heap.size wk W := hE
         have v2 := (hF 2 (by decide) (hD 2 (by kernel_rfl))).eq rfl
         have g2 := hG 2 79 rfl (Nat.le_of_ble_eq_true rfl)
         rw [v2] at g2
         have v4 := (hF 4 (by decide) (hD 4 (by kernel_rfl))).eq rfl
         have g4 := hG 4 81 rfl (Nat.le_of_ble_eq_true rfl)
         rw [v4] at g4
         go_wp2_with fail
         first | exact ⟨_, rfl, Below.refl _ _, VK.val rfl rfl, trivial⟩ | exact ⟨_, rfl, Below.refl _ _, VK.val rfl rfl⟩
       · intro ys done W aa hE hn hF hD hZ hG hO
         replace hE : Below wk.heap.size wk W := hE
         have v5 := (hF 5 (by decide) (hD 5 (by kernel_rfl))).eq rfl
         have g5 := hG 5 82 rfl (Nat.le_of_ble_eq_true rfl)
         rw [v5] at g5
         have z0 := (hE.cell (p := ⟨gx, ox + (j + 9), none⟩) hgx2).trans e3
         go_wp2_with fail
         first | exact ⟨_, rfl, Below.refl _ _, VK.val rfl rfl, trivial⟩ | exact ⟨_, rfl, Below.refl _ _, VK.val rfl rfl⟩
       · intro ys done W aa hE hn hF hD hZ hG hO
         replace hE : Below wk.heap.size wk W := hE
         have v1 := (hF 1 (by decide) (hD 1 (by kernel_rfl))).eq rfl
         have g1 := hG 1 78 rfl (Nat.le_of_ble_eq_true rfl)
         rw [v1] at g1
         have v6 := (hF 6 (by decide) (hD 6 (by kernel_rfl))).eq rfl
         have g6 := hG 6 83 rfl (Nat.le_of_ble_eq_true rfl)
         rw [v6] at g6
         go_wp2_with fail
         first | exact ⟨_, rfl, Below.refl _ _, VK.val rfl rfl, trivial⟩ | exact ⟨_, rfl, Below.refl _ _, VK.val rfl rfl⟩
       · intro ys done W aa hE hn hF hD hZ hG hO
         replace hE : Below wk.heap.size wk W := hE
         have o7 := hO 7 (by kernel_rfl)
         replace o7 : aa.tmps[7]? = some (.int .u32 S0) := o7
         go_wp2_with fail
         first | exact ⟨_, rfl, Below.refl _ _, VK.val rfl rfl, trivial⟩ | exact ⟨_, rfl, Below.refl _ _, VK.val rfl rfl⟩
       · intro ys done W aa hE hn hF hD hZ hG hO
         replace hE : Below wk.heap.size wk W := hE
         have v7 := (hF 7 (by decide) (hD 7 (by kernel_rfl))).eq rfl
         have g7 := hG 7 84 rfl (Nat.le_of_ble_eq_true rfl)
         rw [v7] at g7
         have v8 := (hF 8 (by decide) (hD 8 (by kernel_rfl))).eq rfl
         have g8 := hG 8 85 rfl (Nat.le_of_ble_eq_true rfl)
         rw [v8] at g8
         go_wp2_with fail
         first | exact ⟨_, rfl, Below.refl _ _, VK.val rfl rfl, trivial⟩ | exact ⟨_, rfl, Below.refl _ _, VK.val rfl rfl⟩
       · intro ys done W aa hE hn hF hD hZ hG hO
         replace hE : Below wk.heap.size wk W := hE
         have o3 := hO 3 (by kernel_rfl)
         replace o3 : aa.tmps[3]? = some (.slice (some ⟨gx, ox, none⟩) (j + 16) co) := o3
         go_wp2_with fail
         first | exact ⟨_, rfl, Below.refl _ _, VK.val rfl rfl, trivial⟩ | exact ⟨_, rfl, Below.refl _ _, VK.val rfl rfl⟩
       · intro ys done W aa hE hn hF hD hZ hG hO
         replace hE : Below wk.heap.size wk W := hE
         have o4 := hO 4 (by kernel_rfl)
         replace o4 : aa.tmps[4]? = some (.int .i64 ((j : Int) + 16)) := o4
         go_wp2_with fail
         first | exact ⟨_, rfl, Below.refl _ _, VK.val rfl rfl, trivial⟩ | exact ⟨_, rfl, Below.refl _ _, VK.val rfl rfl⟩
       · intro ys done W aa hE hn hF hD hZ hG hO
         replace hE : Below wk.heap.size wk W := hE
         have v11 := (hF 11 (by decide) (hD 11 (by kernel_rfl))).eq rfl
         have g11 := hG 11 88 rfl (Nat.le_of_ble_eq_true rfl)
         rw [v11] at g11
         have ea : (j : Int) + 16 - 16 = (j : Int) := by omega
         go_wp2_with fail
         first | exact ⟨_, rfl, Below.refl _ _, VK.val rfl rfl, trivial⟩ | exact ⟨_, rfl, Below.refl _ _, VK.val rfl rfl⟩
       · intro ys done W aa hE hn hF hD hZ hG hO
         replace hE : Below wk.heap.size wk W := hE
         have v10 := (hF 10 (by decide) (hD 10 (by kernel_rfl))).eq rfl
         have g10 := hG 10 87 rfl (Nat.le_of_ble_eq_true rfl)
         rw [v10] at g10
         have v12 := (hF 12 (by decide) (hD 12 (by kernel_rfl))).eq rfl
         have g12 := hG 12 89 rfl (Nat.le_of_ble_eq_true rfl)
         rw [v12] at g12
         have hjj : (j : Int) < (j : Int) + 16 := by omega
         go_wp2_with fail
         first | exact ⟨_, rfl, Below.refl _ _, VK.val rfl rfl, trivial⟩ | exact ⟨_, rfl, Below.refl _ _, VK.val rfl rfl⟩
       · intro ys done W aa hE hn hF hD hZ hG hO
         replace hE : Below wk.heap.size wk W := hE
         have v13 := (hF 13 (by decide) (hD 13 (by kernel_rfl))).eq rfl
         have g13 := hG 13 90 rfl (Nat.le_of_ble_eq_true rfl)
         rw [v13] at g13
         have z0 := (hE.cell (p := ⟨gx, ox + j, none⟩) hgx2).trans e4
         go_wp2_with fail
         first | exact ⟨_, rfl, Below.refl _ _, VK.val rfl rfl, trivial⟩ | exact ⟨_, rfl, Below.refl _ _, VK.val rfl rfl⟩
       · intro ys done W aa hE hn hF hD hZ hG hO
         replace hE : Below wk.heap.size wk W := hE
         have v9 := (hF 9 (by decide) (hD 9 (by kernel_rfl))).eq rfl
         have g9 := hG 9 86 rfl (Nat.le_of_ble_eq_true rfl)
         rw [v9] at g9
         have v14 := (hF 14 (by decide) (hD 14 (by kernel_rfl))).eq rfl
         have g14 := hG 14 91 rfl (Nat.le_of_ble_eq_true rfl)
         rw [v14] at g14
         go_wp2_with fail
         first | exact ⟨_, rfl, Below.refl _ _, VK.val rfl rfl, trivial⟩ | exact ⟨_, rfl, Below.refl _ _, VK.val rfl rfl⟩
       · intro ys done W aa hE hn hF hD hZ hG hO
         replace hE : Below wk.heap.size wk W := hE
         have v15 := (hF 15 (by decide) (hD 15 (by kernel_rfl))).eq rfl
         have g15 := hG 15 92 rfl (Nat.le_of_ble_eq_true rfl)
         rw [v15] at g15
         go_wp2_with fail
         first | exact ⟨_, rfl, (Below.refl _ _).alloc (Nat.le_refl _) _, VK.of rfl ⟨_, rfl, hE.size, At.new _ _ _⟩, trivial⟩ | exact ⟨_, rfl, (Below.refl _ _).alloc (Nat.le_refl _) _, VK.of rfl ⟨_, rfl, hE.size, At.new _ _ _⟩⟩
      case hQB =>
       intro ys w2 hE hF _
       replace hE : Below wk.heap.size wk w2 := hE
       have v0 := (hF 0 (by decide)).eq rfl
       have vb := (hF 16 (by decide)).get rfl
       obtain ⟨g6, e6, hg6, hA6⟩ := vb
       simp only [List.take_succ_cons, List.take_zero, List.drop_succ_cons, List.drop_zero, Sched.fill, v0, e6]
       have hown2 := owns_below hownK.out hE
       have hrw := Lib.hid (owns_row hown2)
       have hB2 := Lib.hid (hbwK.out.trans (hE.mono hszK))
       have hs2 := hB2.out.size
       clear hF e6 hE v0
       go_simp
       go_wp2_with (at_builtin; refine wpList_append_own _ rfl _ _ 41 rfl w.heap.size 39 i0 (.int .u32 0) 1 4 Tryd.underlying41 hi hz0 hz1 hz2 rfl (by decide) _ _ _ rfl hown2 ⟨g6, 0, none⟩ 1 1 [.int .u32 (N3 : Int)] rfl rfl (World.news_of_block (cs := #[.int .u32 (N3 : Int)]) (t := 39) (fr := (0, 0)) hA6) (by simp [Value.oneCell']) (by unfold maxLen; omega) (by omega) (by omega) ?_; intro v9 w9 hown9 hgrow9 hnil9)
       have hB9 := Lib.hid (hB2.out.grown hgrow9 (by omega) (fun r e => hrw.out r e))
       have hown9' := Lib.hid hown9
       clear hown9 hgrow9 hnil9 hown2 hA6
       go_wp2
       go_roundw
       case rel => exact ⟨j + 16 + 1, by go_num, by omega, Lib.hid (by rw [hnw.out, List.map_append]; have h := hown9'.out; rw [← hO3'.out] at h; exact h), hB9⟩
       case measure => simp [intOf]; omega

end Go.Proofs.YtkailfajemeeaaaDoor.Sha

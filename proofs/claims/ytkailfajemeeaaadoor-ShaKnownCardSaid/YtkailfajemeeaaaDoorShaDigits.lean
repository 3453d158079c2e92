/-
  A digest's hexadecimal digits.
-/
import Derived.Test.YtkailfajemeeaaaDoorShaSum
import Derived.Test.YtkailfajemeeaaaDoorSchedVK
namespace Go.Proofs.YtkailfajemeeaaaDoor.Sha
open Go.RowKit Go.Sort Go.Shelf Go.Proofs.YtkailfajemeeaaaDoor.Mem Go.Proofs.YtkailfajemeeaaaDoor.Route Go.Proofs.YtkailfajemeeaaaDoor.Feas
set_option linter.unusedVariables false

def hexD (k : Nat) : Nat := if k < 10 then 48 + k else 87 + k
def hexL (l : List Nat) : List Nat := l.flatMap fun x => [hexD (x / 16), hexD (x % 16)]
theorem hexL_snoc (l : List Nat) (x : Nat) : hexL (l ++ [x]) = hexL l ++ [hexD (x / 16), hexD (x % 16)] := by simp [hexL]
theorem hexL_length (l : List Nat) : (hexL l).length = 2 * l.length := by
  induction l with
  | nil => rfl
  | cons x l ih =>
    have : hexL (x :: l) = [hexD (x / 16), hexD (x % 16)] ++ hexL l := by simp [hexL]
    rw [this, List.length_append, ih]
    simp
    omega
theorem hexL_bytes (l : List Nat) (h : Bytes l) : Bytes (hexL l) := by
  intro y hy
  simp only [hexL, List.mem_flatMap, List.mem_cons, List.not_mem_nil, or_false] at hy
  obtain ⟨x, hx, rfl | rfl⟩ := hy
  · have := h x hx
    unfold hexD
    split <;> omega
  · unfold hexD
    split <;> omega
def digitsS : ByteArray := { data := #[48, 49, 50, 51, 52, 53, 54, 55, 56, 57, 97, 98, 99, 100, 101, 102] }
theorem digit_at : ∀ k : Nat, k < 16 → ∃ b, digitsS.data[k]? = some b ∧ b.toNat = hexD k := by
  intro k hk
  match k, hk with
  | 0, _ => exact ⟨_, rfl, rfl⟩
  | 1, _ => exact ⟨_, rfl, rfl⟩
  | 2, _ => exact ⟨_, rfl, rfl⟩
  | 3, _ => exact ⟨_, rfl, rfl⟩
  | 4, _ => exact ⟨_, rfl, rfl⟩
  | 5, _ => exact ⟨_, rfl, rfl⟩
  | 6, _ => exact ⟨_, rfl, rfl⟩
  | 7, _ => exact ⟨_, rfl, rfl⟩
  | 8, _ => exact ⟨_, rfl, rfl⟩
  | 9, _ => exact ⟨_, rfl, rfl⟩
  | 10, _ => exact ⟨_, rfl, rfl⟩
  | 11, _ => exact ⟨_, rfl, rfl⟩
  | 12, _ => exact ⟨_, rfl, rfl⟩
  | 13, _ => exact ⟨_, rfl, rfl⟩
  | 14, _ => exact ⟨_, rfl, rfl⟩
  | 15, _ => exact ⟨_, rfl, rfl⟩
  | k + 16, h => exact absurd h (by omega)
theorem index_digit (k : Nat) (hk : k < 16) (W : World) : (Instr.index 9 (.string digitsS) (.int .u8 (k : Int))).run Tryd.prog W = .ok (.int .u8 (hexD k : Int)) W := by
  rcases (show k = 0 ∨ k = 1 ∨ k = 2 ∨ k = 3 ∨ k = 4 ∨ k = 5 ∨ k = 6 ∨ k = 7 ∨ k = 8 ∨ k = 9 ∨ k = 10 ∨ k = 11 ∨ k = 12 ∨ k = 13 ∨ k = 14 ∨ k = 15 by omega) with rfl | rfl | rfl | rfl | rfl | rfl | rfl | rfl | rfl | rfl | rfl | rfl | rfl | rfl | rfl | rfl
  all_goals kernel_rfl

set_option maxRecDepth 100000 in
set_option maxHeartbeats 4000000 in
theorem digits_any (l : List Nat) (hl : l.length = 32) (hlb : Bytes l) (w : World) : Calls Tryd.prog 15 #[.agg (l.map u8V).toArray] w fun e w' => e = .returned (.string (strOf (hexL l))) ∧ Below w.heap.size w w' := by
  obtain ⟨i0, hi, hz0, hz1, hz2⟩ := info_parts info_u8S
  obtain ⟨n, hn⟩ : ∃ n, w.heap.size = n := ⟨_, rfl⟩
  have hA0 : AtL (w.alloc (.cells (l.map u8V).toArray 23)) n 23 (l.map u8V) := by rw [← hn]; exact AtL.new w _ _
  have hB0 : Below n w (w.alloc (.cells (l.map u8V).toArray 23)) := (Below.refl _ _).alloc (by omega) _
  have hs0 : (w.alloc (.cells (l.map u8V).toArray 23)).heap.size = n + 1 := by simp [hn]
  go_enter Tryd.func15, Tryd.ntmps15
  go_upto_region 1 with fail
  generalize hz : World.alloc w _ = w1
  replace hA0 : AtL w1 n 23 (l.map u8V) := by rw [← hz]; exact hA0
  replace hB0 : Below n w w1 := by rw [← hz]; exact hB0
  replace hs0 : n + 1 ≤ w1.heap.size := by rw [← hz]; exact Nat.le_of_eq hs0.symm
  clear hz
  try simp only [hn]
  replace hn := Lib.hid hn
  go_wp2_with fail
  go_loopw [3, 4] (fun u c wr => ∃ i : Nat, c = .int .i64 (i : Int) ∧ i ≤ 32 ∧ Hid (wr.ownsRow (n + 1) 5 1 u (2 * i) ((hexL (l.take i)).map u8V)) ∧ Hid (AtL wr n 23 (l.map u8V)) ∧ Hid (Below n w wr) ∧ n + 1 ≤ wr.heap.size)
    (fun _ c _ => 32 - (intOf c).toNat)
  case atStart => exact ⟨0, rfl, Nat.zero_le _, Lib.hid (World.ownsRow_nil _ _ _ _), Lib.hid hA0, Lib.hid hB0, hs0⟩
  case round =>
    clear hA0 hB0 hs0
    obtain ⟨wi, hwi⟩ : ∃ wi, wi = wr := ⟨_, rfl⟩
    subst hwi
    obtain ⟨i, rfl, hi32, hown, hA, hB, hs⟩ := hrel
    obtain ⟨I, hI⟩ : ∃ I, 2 * i = I := ⟨_, rfl⟩
    rw [hI] at hown
    have hII : I ≤ 64 := by omega
    replace hI := Lib.hid hI
    obtain ⟨xo, co, rfl, hco1, hco2⟩ := owns_slice hown.out
    by_cases hlt : i < 32
    · have hii : (i : Int) < 32 := by omega
      obtain ⟨x, hx⟩ : ∃ x, l[i]? = some x := ⟨_, List.getElem?_eq_getElem (by omega)⟩
      have hx256 := hlb x (List.mem_of_getElem? hx)
      have hnx := Lib.hid (show hexL (l.take (i + 1)) = hexL (l.take i) ++ [hexD (x / 16), hexD (x % 16)] by
        rw [List.take_add_one, hx]
        exact hexL_snoc _ _)
      have k0 := hA.out.get (i := i) (x := .int .u8 (x : Int)) (by rw [List.getElem?_map, hx]; rfl)
      have x1 := index_digit (x / 16) (by omega)
      have x2 := index_digit (x % 16) (by omega)
      have e1 : (x : Int).tdiv 16 = ((x / 16 : Nat) : Int) := by rw [Int.tdiv_eq_ediv_of_nonneg (by omega)]; rfl
      have e2 : (x : Int).tmod 16 = ((x % 16 : Nat) : Int) := by rw [Int.tmod_eq_emod_of_nonneg (by omega)]; rfl
      have e3 : (x : Int) / 16 = ((x / 16 : Nat) : Int) := rfl
      have e4 : (x : Int) % 16 = ((x % 16 : Nat) : Int) := rfl
      generalize x / 16 = ha at *
      generalize x % 16 = hb at *
      generalize hexD ha = D1 at *
      generalize hexD hb = D2 at *
      unfold digitsS at x1 x2
      clear hx
      have hnn := hA.out.inside
      go_upto_region 5 with fail
      refine Sched.wp_region_sched 12 (fun W W' => Below W.heap.size W W') (VK [.val (.slice xo I co), .val (.int .i64 i), .val (.pointer (some ⟨n, i, none⟩)), .val (.int .u8 x), .val (.int .u8 ha), .val (.int .u8 D1), .val (.int .i64 i), .val (.pointer (some ⟨n, i, none⟩)), .val (.int .u8 x), .val (.int .u8 hb), .val (.int .u8 D2), .of (fun v w => ∃ g : Nat, v = .slice (some ⟨g, 0, none⟩) 2 2 ∧ wi.heap.size ≤ g ∧ At w g 5 #[.int .u8 D1, .int .u8 D2]) (fun ⟨g, e, hg, h⟩ hb => ⟨g, e, hg, h.keep hb h.inside⟩)]) (fun _ _ _ => True) (by kernel_rfl) (by kernel_rfl) (by kernel_rfl) (fun h1 h2 => belowTr h1 h2) (fun h1 h2 => VK.keep h1 h2) (Below.refl _ _).drew (fun _ => trivial) (Sched.StepsA.steps (by kernel_rfl) ?hSA) ?hQA
      case hSA =>
       simp only [List.take_succ_cons, List.take_zero]
       refine ⟨?_, ?_, ?_, ?_, ?_, ?_, ?_, ?_, ?_, ?_, ?_, ?_, trivial⟩
       · intro ys done W aa hE hn hF hD hZ hG hO
         replace hE : Below wi.heap.size wi W := hE
         have o3 := hO 3 (by kernel_rfl)
         replace o3 : aa.tmps[3]? = some (.slice xo I co) := o3
         go_wp2_with fail
         first | exact ⟨_, rfl, Below.refl _ _, VK.val rfl rfl, trivial⟩ | exact ⟨_, rfl, Below.refl _ _, VK.val rfl rfl⟩
       · intro ys done W aa hE hn hF hD hZ hG hO
         replace hE : Below wi.heap.size wi W := hE
         have o4 := hO 4 (by kernel_rfl)
         replace o4 : aa.tmps[4]? = some (.int .i64 i) := o4
         go_wp2_with fail
         first | exact ⟨_, rfl, Below.refl _ _, VK.val rfl rfl, trivial⟩ | exact ⟨_, rfl, Below.refl _ _, VK.val rfl rfl⟩
       · intro ys done W aa hE hn hF hD hZ hG hO
         replace hE : Below wi.heap.size wi W := hE
         have o1 := hO 1 (by kernel_rfl)
         replace o1 : aa.tmps[1]? = some (.pointer (some ⟨n, 0, none⟩)) := o1
         have v1 := (hF 1 (by decide) (hD 1 (by kernel_rfl))).eq rfl
         have g1 := hG 1 10 rfl (Nat.le_of_ble_eq_true rfl)
         rw [v1] at g1
         go_wp2_with fail
         first | exact ⟨_, rfl, Below.refl _ _, VK.val rfl rfl, trivial⟩ | exact ⟨_, rfl, Below.refl _ _, VK.val rfl rfl⟩
       · intro ys done W aa hE hn hF hD hZ hG hO
         replace hE : Below wi.heap.size wi W := hE
         have v2 := (hF 2 (by decide) (hD 2 (by kernel_rfl))).eq rfl
         have g2 := hG 2 11 rfl (Nat.le_of_ble_eq_true rfl)
         rw [v2] at g2
         have z0 := (hE.cell (p := ⟨n, i, none⟩) hnn).trans k0
         go_wp2_with fail
         first | exact ⟨_, rfl, Below.refl _ _, VK.val rfl rfl, trivial⟩ | exact ⟨_, rfl, Below.refl _ _, VK.val rfl rfl⟩
       · intro ys done W aa hE hn hF hD hZ hG hO
         replace hE : Below wi.heap.size wi W := hE
         have v3 := (hF 3 (by decide) (hD 3 (by kernel_rfl))).eq rfl
         have g3 := hG 3 12 rfl (Nat.le_of_ble_eq_true rfl)
         rw [v3] at g3
         go_wp2_with fail
         first | exact ⟨_, rfl, Below.refl _ _, VK.val rfl rfl, trivial⟩ | exact ⟨_, rfl, Below.refl _ _, VK.val rfl rfl⟩
       · intro ys done W aa hE hn hF hD hZ hG hO
         replace hE : Below wi.heap.size wi W := hE
         have v4 := (hF 4 (by decide) (hD 4 (by kernel_rfl))).eq rfl
         have g4 := hG 4 13 rfl (Nat.le_of_ble_eq_true rfl)
         rw [v4] at g4
         go_wp2_with fail
         first | exact ⟨_, rfl, Below.refl _ _, VK.val rfl rfl, trivial⟩ | exact ⟨_, rfl, Below.refl _ _, VK.val rfl rfl⟩
       · intro ys done W aa hE hn hF hD hZ hG hO
         replace hE : Below wi.heap.size wi W := hE
         have o4 := hO 4 (by kernel_rfl)
         replace o4 : aa.tmps[4]? = some (.int .i64 i) := o4
         go_wp2_with fail
         first | exact ⟨_, rfl, Below.refl _ _, VK.val rfl rfl, trivial⟩ | exact ⟨_, rfl, Below.refl _ _, VK.val rfl rfl⟩
       · intro ys done W aa hE hn hF hD hZ hG hO
         replace hE : Below wi.heap.size wi W := hE
         have o1 := hO 1 (by kernel_rfl)
         replace o1 : aa.tmps[1]? = some (.pointer (some ⟨n, 0, none⟩)) := o1
         have v6 := (hF 6 (by decide) (hD 6 (by kernel_rfl))).eq rfl
         have g6 := hG 6 15 rfl (Nat.le_of_ble_eq_true rfl)
         rw [v6] at g6
         go_wp2_with fail
         first | exact ⟨_, rfl, Below.refl _ _, VK.val rfl rfl, trivial⟩ | exact ⟨_, rfl, Below.refl _ _, VK.val rfl rfl⟩
       · intro ys done W aa hE hn hF hD hZ hG hO
         replace hE : Below wi.heap.size wi W := hE
         have v7 := (hF 7 (by decide) (hD 7 (by kernel_rfl))).eq rfl
         have g7 := hG 7 16 rfl (Nat.le_of_ble_eq_true rfl)
         rw [v7] at g7
         have z0 := (hE.cell (p := ⟨n, i, none⟩) hnn).trans k0
         go_wp2_with fail
         first | exact ⟨_, rfl, Below.refl _ _, VK.val rfl rfl, trivial⟩ | exact ⟨_, rfl, Below.refl _ _, VK.val rfl rfl⟩
       · intro ys done W aa hE hn hF hD hZ hG hO
         replace hE : Below wi.heap.size wi W := hE
         have v8 := (hF 8 (by decide) (hD 8 (by kernel_rfl))).eq rfl
         have g8 := hG 8 17 rfl (Nat.le_of_ble_eq_true rfl)
         rw [v8] at g8
         go_wp2_with fail
         first | exact ⟨_, rfl, Below.refl _ _, VK.val rfl rfl, trivial⟩ | exact ⟨_, rfl, Below.refl _ _, VK.val rfl rfl⟩
       · intro ys done W aa hE hn hF hD hZ hG hO
         replace hE : Below wi.heap.size wi W := hE
         have v9 := (hF 9 (by decide) (hD 9 (by kernel_rfl))).eq rfl
         have g9 := hG 9 18 rfl (Nat.le_of_ble_eq_true rfl)
         rw [v9] at g9
         go_wp2_with fail
         first | exact ⟨_, rfl, Below.refl _ _, VK.val rfl rfl, trivial⟩ | exact ⟨_, rfl, Below.refl _ _, VK.val rfl rfl⟩
       · intro ys done W aa hE hn hF hD hZ hG hO
         replace hE : Below wi.heap.size wi W := hE
         have v5 := (hF 5 (by decide) (hD 5 (by kernel_rfl))).eq rfl
         have g5 := hG 5 14 rfl (Nat.le_of_ble_eq_true rfl)
         rw [v5] at g5
         have v10 := (hF 10 (by decide) (hD 10 (by kernel_rfl))).eq rfl
         have g10 := hG 10 19 rfl (Nat.le_of_ble_eq_true rfl)
         rw [v10] at g10
         go_wp2_with fail
         first | exact ⟨_, rfl, (Below.refl _ _).alloc (Nat.le_refl _) _, VK.of rfl ⟨_, rfl, hE.size, At.new _ _ _⟩, trivial⟩ | exact ⟨_, rfl, (Below.refl _ _).alloc (Nat.le_refl _) _, VK.of rfl ⟨_, rfl, hE.size, At.new _ _ _⟩⟩
      case hQA =>
       intro ys w2 hE hF _
       replace hE : Below wi.heap.size wi w2 := hE
       have v0 := (hF 0 (by decide)).eq rfl
       have vb := (hF 11 (by decide)).get rfl
       obtain ⟨g6, e6, hg6, hA6⟩ := vb
       simp only [List.take_succ_cons, List.take_zero, List.drop_succ_cons, List.drop_zero, Sched.fill, v0, e6]
       have hown2 := owns_below hown.out hE
       have hrw := Lib.hid (owns_row hown2)
       have hB2 := hB.out.trans (hE.mono (Nat.le_of_lt hnn))
       have hA2 := hA.out.on hE
       have hs2 : n + 1 ≤ w2.heap.size := Nat.le_trans hs hE.size
       clear hF e6 hE v0 hA hB hown
       go_simp
       go_wp2_with (at_builtin; refine wpList_append_own _ rfl _ _ 35 rfl (n + 1) 5 i0 (.int .u8 0) 1 1 Tryd.underlying35 hi hz0 hz1 hz2 rfl (by decide) _ _ _ rfl hown2 ⟨g6, 0, none⟩ 2 2 [.int .u8 (D1 : Int), .int .u8 (D2 : Int)] rfl rfl (World.news_of_block (cs := #[.int .u8 (D1 : Int), .int .u8 (D2 : Int)]) (t := 5) (fr := (0, 0)) hA6) (by simp [Value.oneCell']) (by unfold maxLen; omega) (by omega) hs2 ?_; intro v9 w9 hown9 hgrow9 hnil9)
       have hB9 := Lib.hid (hB2.grown hgrow9 (by omega) (fun r e => by have := hrw.out r e; omega))
       have hA9 := Lib.hid (show AtL w9 n 23 (l.map u8V) from (hgrow9.block n hA2.inside (fun e => by have := hrw.out n e.symm; omega)).trans hA2)
       have hs9 : n + 1 ≤ w9.heap.size := Nat.le_trans hs2 hgrow9.size
       have hown9' := Lib.hid (show w9.ownsRow (n + 1) 5 1 v9 (2 * (i + 1)) ((hexL (l.take (i + 1))).map u8V) by
         rw [hnx.out, List.map_append, show 2 * (i + 1) = I + 2 by have := hI.out; omega]
         exact hown9)
       clear hown9 hgrow9 hnil9 hown2 hA6 hA2 hB2
       go_wp2
       go_roundw
       case rel => exact ⟨i + 1, by go_num, by omega, hown9', hA9, hB9, hs9⟩
       case measure => simp [intOf]; omega
    · obtain rfl : i = 32 := by omega
      rw [List.take_of_length_le (by omega)] at hown
      have hIv : I = 64 := by have := hI.out; omega
      have hcv : (convert 35 9 (.slice xo I co)).run Tryd.prog wi = .ok (.string (strOf (hexL l))) wi := by
        obtain ⟨h1, ⟨h2, h3⟩ | ⟨gq, cq, cur, e, hb, hg, hc1, hc2, hc3, hc4⟩⟩ := hown.out
        · omega
        · cases e
          have := run_convert_bytes_back (P := Tryd.prog) wi 35 9 5 ⟨gq, 0, none⟩ co ((hexL l).map UInt8.ofNat) Tryd.underlying35 Tryd.underlying5 Tryd.underlying9 (fun j hj => by
            have hadd : (⟨gq, 0, none⟩ : Addr).add j = ⟨gq, j, none⟩ := by unfold Addr.add; split <;> simp_all
            rw [hadd, cell_of_row wi gq j cur _ _ hg]
            have hj' : j < (hexL l).length := by simpa using hj
            have hb := hexL_bytes l hlb _ (List.getElem_mem hj')
            have h4 : (cur.toList.take (I * 1))[j]? = ((hexL l).map u8V)[j]? := by rw [hc4]
            rw [List.getElem?_take_of_lt (by rw [hexL_length] at hj'; omega)] at h4
            have h5 : cur[j]? = ((hexL l).map u8V)[j]? := by simpa using h4
            rw [h5, List.getElem?_map, List.getElem?_eq_getElem hj']
            simp [u8V]
            omega)
          rw [List.length_map, hexL_length, show 2 * l.length = I by omega] at this
          exact this
      clear hlt hi32 hown hIv
      go_wp2
      go_ret
      rw [hn.out]
      exact ⟨rfl, hB.out⟩

end Go.Proofs.YtkailfajemeeaaaDoor.Sha

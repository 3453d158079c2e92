/-
  The state's bytes: the program's digest.
-/
import Derived.Test.YtkailfajemeeaaaDoorShaCalls
import Derived.Test.YtkailfajemeeaaaDoorShaRound
namespace Go.Proofs.YtkailfajemeeaaaDoor.Sha
open Go.RowKit Go.Sort Go.Proofs.YtkailfajemeeaaaDoor.Mem Go.Proofs.YtkailfajemeeaaaDoor.Route
set_option linter.unusedVariables false

theorem wordB_get (x : Wd) {r : Nat} (hr : r < 4) : (wordB x)[r]? = some (x.toNat / 2 ^ (8 * (4 - 1 - r)) % 256) := by
  have := wd_lt x
  match r, hr with
  | 0, _ => simp [wordB]; omega
  | 1, _ => rfl
  | 2, _ => rfl
  | 3, _ => simp [wordB]
def wordsS (s : St8) : List Wd := [s.a, s.b, s.c, s.d, s.e, s.f, s.g, s.h]
theorem bytes_flat (s : St8) : bytesS s = ((wordsS s).map wordB).flatten := by simp [bytesS, wordsS, List.append_assoc]
theorem byte_at (s : St8) {i : Nat} (hi : i < 32) : ∃ x : Wd, (stL s)[i / 4]? = some (.int .u32 (x.toNat : Int)) ∧ (bytesS s)[i]? = some (x.toNat / 2 ^ (8 * (4 - 1 - i % 4)) % 256) := by
  obtain ⟨x, hx⟩ : ∃ x, (wordsS s)[i / 4]? = some x := ⟨_, List.getElem?_eq_getElem (by show i / 4 < 8; omega)⟩
  refine ⟨x, ?_, ?_⟩
  · have : stL s = (wordsS s).map u32V := rfl
    rw [this, List.getElem?_map, hx]
    rfl
  · have h := flat_get (m := 4) (rows := (wordsS s).map wordB) (fun r hr => by obtain ⟨y, -, rfl⟩ := List.mem_map.1 hr; rfl) (i / 4) (wordB x) (by rw [List.getElem?_map, hx]; rfl) (i % 4) _ (wordB_get x (Nat.mod_lt _ (by decide)))
    rw [show i / 4 * 4 + i % 4 = i by omega] at h
    rw [bytes_flat]
    exact h
theorem bytesS_length (s : St8) : (bytesS s).length = 32 := rfl
theorem bytes_put {s : St8} {i y : Nat} (hi : i < 32) (hy : (bytesS s)[i]? = some y) : (padB 32 ((bytesS s).take i)).set i (.int .u8 (y : Int)) = padB 32 ((bytesS s).take (i + 1)) := by
  have hl : ((bytesS s).take i).length = i := by simp [bytesS_length]; omega
  have := padB_set (n := 32) (bs := (bytesS s).take i) (by rw [hl]; exact hi) y
  rw [hl] at this
  rw [List.take_add_one, hy]
  exact this
theorem padB_hole {n i : Nat} {bs : List Nat} (h : bs.length = i) (hi : i < n) : (padB n bs)[i]? = some (.int .u8 0) := by
  unfold padB
  rw [List.map_append, List.getElem?_append_right (by simp [h]), List.length_map, h, Nat.sub_self, List.getElem?_map, List.getElem?_replicate, if_pos (by omega)]
  rfl

set_option maxRecDepth 100000 in
set_option maxHeartbeats 4000000 in
theorem digest_any (s : St8) (w : World) :
    Calls Tryd.prog 22 #[.agg (stL s).toArray] w fun e w' => e = .returned (.agg ((bytesS s).map u8V).toArray) ∧ Below w.heap.size w w' := by
  go_enter Tryd.func22, Tryd.ntmps22
  go_upto_region 2 with fail
  have hA0 : AtL (((w.alloc (.cells (stL s).toArray 46)).alloc (.cells (padB 32 []).toArray 23)).alloc (.cells (padB 32 []).toArray 23)) w.heap.size 46 (stL s) := ((AtL.new w _ _).alloc _).alloc _
  have hR0 : AtL (((w.alloc (.cells (stL s).toArray 46)).alloc (.cells (padB 32 []).toArray 23)).alloc (.cells (padB 32 []).toArray 23)) (w.heap.size + 1) 23 (padB 32 []) := by
    have := (AtL.new (w.alloc (.cells (stL s).toArray 46)) 23 (padB 32 [])).alloc (.cells (padB 32 []).toArray 23)
    rwa [World.size_alloc] at this
  have hW0 : AtL (((w.alloc (.cells (stL s).toArray 46)).alloc (.cells (padB 32 []).toArray 23)).alloc (.cells (padB 32 []).toArray 23)) (w.heap.size + 1 + 1) 23 (padB 32 ((bytesS s).take 0)) := by
    have := AtL.new ((w.alloc (.cells (stL s).toArray 46)).alloc (.cells (padB 32 []).toArray 23)) 23 (padB 32 [])
    rwa [World.size_alloc, World.size_alloc] at this
  have hB0 : Below w.heap.size w (((w.alloc (.cells (stL s).toArray 46)).alloc (.cells (padB 32 []).toArray 23)).alloc (.cells (padB 32 []).toArray 23)) :=
    (((Below.refl _ _).alloc (Nat.le_refl _) _).alloc (by simp) _).alloc (by simp; omega) _
  generalize hz : World.alloc (World.alloc (World.alloc w _) _) _ = w1
  replace hA0 : AtL w1 w.heap.size 46 (stL s) := by rw [← hz]; exact hA0
  replace hR0 : AtL w1 (w.heap.size + 1) 23 (padB 32 []) := by rw [← hz]; exact hR0
  replace hW0 : AtL w1 (w.heap.size + 1 + 1) 23 (padB 32 ((bytesS s).take 0)) := by rw [← hz]; exact hW0
  replace hB0 : Below w.heap.size w w1 := by rw [← hz]; exact hB0
  clear hz
  obtain ⟨n, hn⟩ : ∃ n, w.heap.size = n := ⟨_, rfl⟩
  simp only [hn] at hA0 hR0 hW0 hB0 ⊢
  replace hn := Lib.hid hn
  go_wp2_with fail
  go_loopw [5] (fun c wr => ∃ i : Nat, c = .int .i64 (i : Int) ∧ i ≤ 32 ∧ Hid (AtL wr n 46 (stL s)) ∧ Hid (AtL wr (n + 1) 23 (padB 32 [])) ∧ Hid (AtL wr (n + 1 + 1) 23 (padB 32 ((bytesS s).take i))) ∧ Hid (Below n w wr))
    (fun c _ => 32 - (intOf c).toNat)
  case atStart => exact ⟨0, rfl, Nat.zero_le _, Lib.hid hA0, Lib.hid hR0, Lib.hid hW0, Lib.hid hB0⟩
  case round =>
    clear hA0 hR0 hW0 hB0
    obtain ⟨wi, hwi⟩ : ∃ wi, wi = wr := ⟨_, rfl⟩
    subst hwi
    obtain ⟨i, rfl, hi32, hA, hR, hW, hB⟩ := hrel
    by_cases hlt : i < 32
    · have hii : (i : Int) < 32 := by omega
      obtain ⟨x, hx, hy⟩ := byte_at s hlt
      have k0 := hA.out.get hx
      have hcall := fun W => byteOf32_any x.toNat 4 (i % 4) (Nat.le_refl _) (Nat.mod_lt _ (by decide)) W
      obtain ⟨y, hyy⟩ : ∃ y, x.toNat / 2 ^ (8 * (4 - 1 - i % 4)) % 256 = y := ⟨_, rfl⟩
      rw [hyy] at hy hcall
      have e1 : (i : Int).tdiv 4 = ((i / 4 : Nat) : Int) := by rw [Int.tdiv_eq_ediv_of_nonneg (by omega)]; rfl
      have e2 : (i : Int).tmod 4 = ((i % 4 : Nat) : Int) := by rw [Int.tmod_eq_emod_of_nonneg (by omega)]; rfl
      have hq : i / 4 < 8 := by omega
      generalize i / 4 = q at *
      generalize i % 4 = r at *
      generalize x.toNat = X at *
      clear hyy
      have hqi : (q : Int) < 8 := by omega
      replace hy := Lib.hid hy
      go_wp2_with fail
      refine (hcall _).mono ?_
      clear hcall
      rintro e w' ⟨rfl, rfl⟩
      obtain ⟨wi, hwi⟩ : ∃ wi, wi = w' := ⟨_, rfl⟩
      subst hwi
      have c0 := hW.out.get (padB_hole (n := 32) (i := i) (by simp [bytesS_length]; omega) hlt)
      have c1 := hW.out.free i
      have hW2 := hW.out.put i (.int .u8 (y : Int))
      rw [bytes_put hlt hy.out] at hW2
      replace hW2 := Lib.hid hW2
      have hA2 := Lib.hid (hA.out.far (b := n + 1 + 1) (by omega) i (.int .u8 (y : Int)))
      have hR2 := Lib.hid (hR.out.far (b := n + 1 + 1) (by omega) i (.int .u8 (y : Int)))
      have hB2 := Lib.hid (hB.out.setCell (p := ⟨n + 1 + 1, i, none⟩) (by show n ≤ n + 1 + 1; omega) (.int .u8 (y : Int)))
      clear hA hR hB hW
      go_wp2
      go_roundw
      case rel => exact ⟨i + 1, by go_num, by omega, hA2, hR2, hW2, hB2⟩
      case measure => simp [intOf]; omega
    · obtain rfl : i = 32 := by omega
      clear hlt hi32
      have hL : padB 32 ((bytesS s).take 32) = (bytesS s).map u8V := by rw [padB_all (by simp [bytesS_length]), List.take_of_length_le (by simp [bytesS_length])]
      have hAt : AtL wi (n + 1 + 1) 23 ((bytesS s).map u8V) := by rw [← hL]; exact hW.out
      have hR2 := hR.out.row ((bytesS s).map u8V)
      have hB2 := below_row hB.out (show n ≤ n + 1 by omega) ((bytesS s).map u8V).toArray
      have hI : (Tryd.prog.info? 23).map (·.size) = some 32 := by kernel_rfl
      have hs : ((bytesS s).map u8V).toArray.size = 32 := by simp [bytesS_length]
      have ho := Lib.hid (show (padB 32 []).toArray.size = ((bytesS s).map u8V).toArray.size by rw [hs]; rfl)
      have h1 := Lib.hid (show ((bytesS s).map u8V).toArray.all (·.oneCell') = true from Array.all_eq_true_iff_forall_mem.2 fun v hv => one_u8 v (by simpa using hv))
      have hI' := Lib.hid (show (Tryd.prog.info? 23).map (·.size) = some ((bytesS s).map u8V).toArray.size by rw [hs]; exact hI)
      have hRr := hR.out
      clear hL hs hI hR hW hB
      go_wp2_with (first | (refine wpList_load_row rfl 23 _ rfl (n + 1 + 1) rfl 23 ((bytesS s).map u8V).toArray (0, 0) _ hAt Tryd.underlying23 rfl hI'.out ?_) | (refine wpList_store_row rfl 23 _ _ rfl (n + 1) ((bytesS s).map u8V).toArray rfl rfl 23 (padB 32 []).toArray hRr hI'.out ho.out h1.out ?_))
      refine bodyPost_ret (ret_array rfl rfl hR2 _ Tryd.underlying23 rfl (by have := hI'.out; simpa using this)) rfl ⟨rfl, ?_⟩
      rw [hn.out]
      exact hB2

end Go.Proofs.YtkailfajemeeaaaDoor.Sha

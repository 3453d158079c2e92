/-
  The sum of what was written, and of a text: the program's Digest and Sum.
-/
import Derived.Test.YtkailfajemeeaaaDoorShaWrite
namespace Go.Proofs.YtkailfajemeeaaaDoor.Sha
open Go.RowKit Go.Sort Go.Shelf Go.Proofs.YtkailfajemeeaaaDoor.Mem Go.Proofs.YtkailfajemeeaaaDoor.Route
set_option linter.unusedVariables false

theorem sum_tail (all : List Nat) : bytesS (blksS (all ++ tailL all.length) ((all ++ tailL all.length).length / 64)) = sumL all := rfl
theorem sumL_bytes (all : List Nat) : Bytes (sumL all) := by
  intro x hx
  obtain ⟨i, hi, rfl⟩ := List.getElem_of_mem hx
  rw [sumL_length] at hi
  obtain ⟨y, -, h2⟩ := byte_at (sumS all) hi
  have h3 : (sumL all)[i]? = some (y.toNat / 2 ^ (8 * (4 - 1 - i % 4)) % 256) := h2
  rw [List.getElem?_eq_getElem (by rw [sumL_length]; exact hi)] at h3
  have := Option.some.inj h3
  rw [this]
  exact Nat.mod_lt _ (by decide)

set_option maxRecDepth 100000 in
set_option maxHeartbeats 4000000 in
theorem sumOf_any (g : Nat) (all : List Nat) (w : World) (h : HashAt w g all) (hlen : all.length < 800000) (hsg : Sg w) :
    Calls Tryd.prog 13 #[.pointer (some ⟨g, 0, none⟩)] w fun e w' => e = .returned (.agg ((sumL all).map u8V).toArray) ∧ Below w.heap.size w w' := by
  obtain ⟨n, hn⟩ : ∃ n, w.heap.size = n := ⟨_, rfl⟩
  have hA0 : AtL (w.alloc (.cells (padB 32 []).toArray 23)) n 23 (padB 32 []) := by rw [← hn]; exact AtL.new w _ _
  have hB0 : Below n w (w.alloc (.cells (padB 32 []).toArray 23)) := (Below.refl _ _).alloc (by omega) _
  have hgn : g < n := by have := h.inside; omega
  have hp1 := hsg.posh
  have hp2 := hsg.posk
  go_enter Tryd.func13, Tryd.ntmps13
  go_upto_region 3 with fail
  generalize hz : World.alloc w _ = w1
  replace hA0 : AtL w1 n 23 (padB 32 []) := by rw [← hz]; exact hA0
  replace hB0 : Below n w w1 := by rw [← hz]; exact hB0
  clear hz
  have hs1 := hA0.inside
  have hsg1 := hsg.keep hB0 (by omega) (by omega)
  have hh1 := h.keep hB0 hgn
  try simp only [hn]
  rw [hn] at hp1 hp2
  replace hn := Lib.hid hn
  go_wp2_with fail
  refine (copy_any w1 g all hh1).mono ?_
  rintro e w2 ⟨rfl, hh2, hb2⟩
  obtain ⟨k, hk⟩ : ∃ k, w1.heap.size = k := ⟨_, rfl⟩
  have hA2 := hA0.on hb2
  have hB2 := hB0.trans (hb2.mono (by omega))
  have hg2 := hh1.on hb2
  have hsg2 := hsg1.on hb2
  simp only [hk] at hh2 hs1 ⊢
  replace hk := Lib.hid hk
  clear hA0 hB0 hh1 hsg1 hb2 h hsg
  obtain ⟨hx, part, q1, q2, q3, q4⟩ := hg2
  have c0 : w2.cell? ⟨g, 72, none⟩ = some (.int .u64 (all.length : Int)) := q4.get (hash_lenAt q1)
  have hpad := fun W => padding_any all.length (by omega) W
  clear q1 q2 q3 q4
  obtain ⟨len, hl⟩ : ∃ len, all.length = len := ⟨_, rfl⟩
  rw [hl] at c0 hpad
  replace hl := Lib.hid hl
  go_wp2_with fail
  refine (hpad _).mono ?_
  clear hpad
  rintro e w3 ⟨rfl, hb3⟩
  have hA3 := hA2.on hb3
  have hB3 := hB2.trans (hb3.mono (by have := hA2.inside; omega))
  have hh3 := hh2.on hb3
  have hsg3 := hsg2.on hb3
  have htl : (tailL len).length ≤ 72 := by simp [tailL]; omega
  have hwr := write_any k all (strOf (tailL len)) w3 hh3 (by rw [strOf_size]; omega) hsg3 (by omega) (by omega)
  rw [bytes_str (tailL_bytes len)] at hwr
  clear hA2 hB2 hh2 hsg2 hb3 c0
  go_wp2_with fail
  refine hwr.mono ?_
  clear hwr
  rintro e w4 ⟨⟨v, rfl⟩, hh4, hgr4⟩
  have hA4 : AtL w4 n 23 (padB 32 []) := (hgr4.block n hA3.inside (by simp; omega)).trans hA3
  have hB4 : Below n w w4 := hB3.grown hgr4 (by have := hA3.inside; omega) (fun r e => by cases e; omega)
  clear hA3 hB3 hh3 hsg3 hgr4
  obtain ⟨hx4, part, q1, q2, q3, q4⟩ := hh4
  obtain ⟨s, hs⟩ : ∃ s, blksS (all ++ tailL len) ((all ++ tailL len).length / 64) = s := ⟨_, rfl⟩
  have hsum := Lib.hid (show bytesS s = sumL all by rw [← hs, ← hl.out]; exact sum_tail all)
  rw [hs] at q4
  have hcS := Lib.hid (show ∀ j v, (stL s)[j]? = some v → w4.cell? ⟨k, 0 + j, none⟩ = some v from fun j v hv => q4.get (hash_stAt j v hv))
  have hIs := Lib.hid (show (Tryd.prog.info? 46).map (·.size) = some (stL s).length by kernel_rfl)
  clear q1 q2 q3 q4 hs
  go_wp2_with (refine wpList_load_part rfl 46 _ rfl k 0 rfl (stL s) hcS.out _ Tryd.underlying46 rfl hIs.out ?_)
  refine (digest_any s _).mono ?_
  rintro e w5 ⟨rfl, hb5⟩
  have hA5 := hA4.on hb5
  have hB5 := hB4.trans (hb5.mono (by have := hA4.inside; omega))
  have hR2 := hA5.row ((bytesS s).map u8V)
  have hB6 := below_row hB5 (Nat.le_refl n) ((bytesS s).map u8V).toArray
  have hs3 : ((bytesS s).map u8V).toArray.size = 32 := by simp [bytesS_length]
  have ho := Lib.hid (show (padB 32 []).toArray.size = ((bytesS s).map u8V).toArray.size by rw [hs3]; rfl)
  have h1 := Lib.hid (show ((bytesS s).map u8V).toArray.all (·.oneCell') = true from Array.all_eq_true_iff_forall_mem.2 fun v hv => one_u8 v (by simpa using hv))
  have hI' := Lib.hid (show (Tryd.prog.info? 23).map (·.size) = some ((bytesS s).map u8V).toArray.size by rw [hs3]; kernel_rfl)
  clear hA4 hB4 hb5 hB5 hcS hs3
  go_wp2_with (refine wpList_store_row rfl 23 _ _ rfl n ((bytesS s).map u8V).toArray rfl rfl 23 (padB 32 []).toArray hA5 hI'.out ho.out h1.out ?_)
  refine bodyPost_ret (ret_array rfl rfl hR2 _ Tryd.underlying23 rfl (by have := hI'.out; simpa using this)) rfl ⟨by rw [hsum.out], ?_⟩
  rw [hn.out]
  exact hB6

set_option maxRecDepth 100000 in
theorem digest_nil (w : World) : Calls Tryd.prog 13 #[.pointer none] w fun e w' => e = .returned (.agg (padB 32 []).toArray) ∧ Below w.heap.size w w' := by
  obtain ⟨n, hn⟩ : ∃ n, w.heap.size = n := ⟨_, rfl⟩
  have hA0 : AtL (w.alloc (.cells (padB 32 []).toArray 23)) n 23 (padB 32 []) := by rw [← hn]; exact AtL.new w _ _
  have hB0 : Below n w (w.alloc (.cells (padB 32 []).toArray 23)) := (Below.refl _ _).alloc (by omega) _
  have h1 := Lib.hid (show (padB 32 []).toArray.all (·.oneCell') = true from Array.all_eq_true_iff_forall_mem.2 fun v hv => one_u8 (l := List.replicate 32 0) v (by simpa [padB] using hv))
  have hI := Lib.hid (show (Tryd.prog.info? 23).map (·.size) = some (padB 32 []).toArray.size by kernel_rfl)
  go_enter Tryd.func13, Tryd.ntmps13
  go_upto_region 2 with fail
  generalize hz : World.alloc w _ = w1
  replace hA0 : AtL w1 n 23 (padB 32 []) := by rw [← hz]; exact hA0
  replace hB0 : Below n w w1 := by rw [← hz]; exact hB0
  clear hz
  try simp only [hn]
  replace hn := Lib.hid hn
  have hR2 := hA0.row (padB 32 [])
  have hB6 := below_row hB0 (Nat.le_refl n) (padB 32 []).toArray
  go_wp2_with (refine wpList_store_row rfl 23 _ _ rfl n (padB 32 []).toArray rfl rfl 23 (padB 32 []).toArray hA0 hI.out rfl h1.out ?_)
  refine bodyPost_ret (ret_array rfl rfl hR2 _ Tryd.underlying23 rfl hI.out) rfl ⟨rfl, ?_⟩
  rw [hn.out]
  exact hB6

set_option maxRecDepth 100000 in
set_option maxHeartbeats 4000000 in
theorem psum_any (t : ByteArray) (ht : t.size < 800000) (w : World) (hsg : Sg w) : Calls Tryd.prog 8 #[.string t] w fun e w' => e = .returned (.agg ((sumL (bytesOf t)).map u8V).toArray) ∧ Below w.heap.size w w' := by
  obtain ⟨n, hn⟩ : ∃ n, w.heap.size = n := ⟨_, rfl⟩
  have hA0 : AtL (w.alloc (.cells (padB 32 []).toArray 23)) n 23 (padB 32 []) := by rw [← hn]; exact AtL.new w _ _
  have hB0 : Below n w (w.alloc (.cells (padB 32 []).toArray 23)) := (Below.refl _ _).alloc (by omega) _
  have hp1 := hsg.posh
  have hp2 := hsg.posk
  go_enter Tryd.func8, Tryd.ntmps8
  go_upto_region 1 with fail
  generalize hz : World.alloc w _ = w1
  replace hA0 : AtL w1 n 23 (padB 32 []) := by rw [← hz]; exact hA0
  replace hB0 : Below n w w1 := by rw [← hz]; exact hB0
  clear hz
  have hs1 := hA0.inside
  have hsg1 := hsg.keep hB0 (by omega) (by omega)
  try simp only [hn]
  rw [hn] at hp1 hp2
  replace hn := Lib.hid hn
  go_wp2_with fail
  refine (new_any w1 hsg1).mono ?_
  rintro e w2 ⟨rfl, hh2, hb2⟩
  obtain ⟨k, hk⟩ : ∃ k, w1.heap.size = k := ⟨_, rfl⟩
  have hA2 := hA0.on hb2
  have hB2 := hB0.trans (hb2.mono (by omega))
  have hsg2 := hsg1.on hb2
  simp only [hk] at hh2 hs1 ⊢
  replace hk := Lib.hid hk
  clear hA0 hB0 hsg1 hb2 hsg
  have hwr := write_any k [] t w2 hh2 (by simp; omega) hsg2 (by omega) (by omega)
  rw [List.nil_append] at hwr
  go_wp2_with fail
  refine hwr.mono ?_
  clear hwr
  rintro e w3 ⟨⟨v, rfl⟩, hh3, hgr3⟩
  have hA3 : AtL w3 n 23 (padB 32 []) := (hgr3.block n hA2.inside (by simp; omega)).trans hA2
  have hB3 : Below n w w3 := hB2.grown hgr3 (by have := hA2.inside; omega) (fun r e => by cases e; omega)
  have hsg3 : Sg w3 := hsg2.same (hgr3.block _ hsg2.posh (by simp; omega)) (hgr3.block _ hsg2.posk (by simp; omega))
  clear hA2 hB2 hh2 hsg2 hgr3
  have hbl := bytesOf_length t
  go_wp2_with fail
  refine (sumOf_any k (bytesOf t) w3 hh3 (by omega) hsg3).mono ?_
  rintro e w5 ⟨rfl, hb5⟩
  have hA5 := hA3.on hb5
  have hB5 := hB3.trans (hb5.mono (by have := hA3.inside; omega))
  obtain ⟨l, hl⟩ : ∃ l, sumL (bytesOf t) = l := ⟨_, rfl⟩
  have hll : l.length = 32 := by rw [← hl]; exact sumL_length _
  rw [hl]
  have hR2 := hA5.row (l.map u8V)
  have hB6 := below_row hB5 (Nat.le_refl n) (l.map u8V).toArray
  have hs3 : (l.map u8V).toArray.size = 32 := by simp [hll]
  have ho := Lib.hid (show (padB 32 []).toArray.size = (l.map u8V).toArray.size by rw [hs3]; rfl)
  have h1 := Lib.hid (show (l.map u8V).toArray.all (·.oneCell') = true from Array.all_eq_true_iff_forall_mem.2 fun v hv => one_u8 v (by simpa using hv))
  have hI' := Lib.hid (show (Tryd.prog.info? 23).map (·.size) = some (l.map u8V).toArray.size by rw [hs3]; kernel_rfl)
  replace hl := Lib.hid hl
  clear hA3 hB3 hb5 hB5 hs3 hll
  go_wp2_with (refine wpList_store_row rfl 23 _ _ rfl n (l.map u8V).toArray rfl rfl 23 (padB 32 []).toArray hA5 hI'.out ho.out h1.out ?_)
  refine bodyPost_ret (ret_array rfl rfl hR2 _ Tryd.underlying23 rfl (by have := hI'.out; simpa using this)) rfl ⟨by rw [hl.out], ?_⟩
  rw [hn.out]
  exact hB6

end Go.Proofs.YtkailfajemeeaaaDoor.Sha

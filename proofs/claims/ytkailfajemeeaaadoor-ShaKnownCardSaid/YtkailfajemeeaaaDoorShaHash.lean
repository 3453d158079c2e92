/-
  A hash in memory: what it holds behind a text; New, Copy.
-/
import Derived.Test.YtkailfajemeeaaaDoorShaBehind
import Derived.Test.YtkailfajemeeaaaDoorShaDigest
namespace Go.Proofs.YtkailfajemeeaaaDoor.Sha
open Go.RowKit Go.Sort Go.Proofs.YtkailfajemeeaaaDoor.Mem Go.Proofs.YtkailfajemeeaaaDoor.Route
set_option linter.unusedVariables false

/-- A hash's cells. -/
def hashL (s : St8) (part : List Nat) (len : Nat) : List Value := stL s ++ part.map u8V ++ [.int .u64 (len : Int)]
theorem hashL_length {s : St8} {part : List Nat} {len : Nat} (h : part.length = 64) : (hashL s part len).length = 73 := by simp [hashL, stL, h]
theorem hashL_one {s : St8} {part : List Nat} {len : Nat} : ∀ v ∈ hashL s part len, v.oneCell' = true := by
  intro v hv
  simp only [hashL, List.mem_append, List.mem_singleton] at hv
  rcases hv with (hv | hv) | rfl
  · exact stL_one v hv
  · exact one_u8 v hv
  · rfl
/-- What stands behind the last whole block. -/
def restL (all : List Nat) : List Nat := all.drop (64 * (all.length / 64))
theorem restL_length (all : List Nat) : (restL all).length = all.length % 64 := by unfold restL; rw [List.length_drop]; omega
def Bytes (l : List Nat) : Prop := ∀ x ∈ l, x < 256
/-- Block g is a hash to which this text was written. -/
structure HashAt (W : World) (g : Nat) (all : List Nat) : Prop where
  bytes : Bytes all
  at_ : ∃ part : List Nat, part.length = 64 ∧ Bytes part ∧ part.take (all.length % 64) = restL all ∧ AtL W g 51 (hashL (blksS all (all.length / 64)) part all.length)
theorem HashAt.keep {B : Nat} {w v : World} {g : Nat} {all : List Nat} (h : HashAt w g all) (hb : Below B w v) (hg : g < B) : HashAt v g all := by
  obtain ⟨hx, part, h1, h2, h3, h4⟩ := h
  exact ⟨hx, part, h1, h2, h3, h4.keep hb hg⟩
theorem HashAt.inside {w : World} {g : Nat} {all : List Nat} (h : HashAt w g all) : g < w.heap.size := by
  obtain ⟨hx, part, h1, h2, h3, h4⟩ := h
  exact h4.inside
theorem HashAt.on {w v : World} {g : Nat} {all : List Nat} (h : HashAt w g all) (hb : Below w.heap.size w v) : HashAt v g all := h.keep hb h.inside
theorem HashAt.same {w v : World} {g : Nat} {all : List Nat} (h : HashAt w g all) (hb : v.heap[g]? = w.heap[g]?) : HashAt v g all := by
  obtain ⟨hx, part, h1, h2, h3, h4⟩ := h
  exact ⟨hx, part, h1, h2, h3, hb.trans h4⟩

def zeros64 : List Nat := List.replicate 64 0
theorem zeros64_length : zeros64.length = 64 := by decide
theorem zeros64_bytes : Bytes zeros64 := by
  intro x hx
  obtain ⟨-, rfl⟩ := List.mem_replicate.1 hx
  decide
theorem hash_new {W : World} {g : Nat} (h : AtL W g 51 (hashL initS zeros64 0)) : HashAt W g [] := ⟨fun x hx => (by cases hx), ⟨zeros64, zeros64_length, zeros64_bytes, rfl, h⟩⟩
set_option maxRecDepth 100000 in
set_option maxHeartbeats 4000000 in
theorem new_any (w : World) (hsg : Sg w) : Calls Tryd.prog 11 #[] w fun e w' => e = .returned (.pointer (some ⟨w.heap.size, 0, none⟩)) ∧ HashAt w' w.heap.size [] ∧ Below w.heap.size w w' := by
  have hc := Lib.hid (show ∀ j v, (hT.map u32V)[j]? = some v → w.cell? ⟨0, 0 + j, none⟩ = some v from fun j v hv => by
    rw [List.getElem?_map] at hv
    obtain ⟨x, hx, rfl⟩ := Option.map_eq_some_iff.1 hv
    rw [Nat.zero_add]
    exact hsg.hs j x hx)
  have hI := Lib.hid (show (Tryd.prog.info? 46).map (·.size) = some (hT.map u32V).length by kernel_rfl)
  have hA : HashAt (w.alloc (.cells (hashL initS zeros64 0).toArray 51)) w.heap.size [] := hash_new (AtL.new w _ _)
  have hB : Below w.heap.size w (w.alloc (.cells (hashL initS zeros64 0).toArray 51)) := (Below.refl _ _).alloc (Nat.le_refl _) _
  have hbd := Lib.hid (show Tryd.prog.built 51 [(0, .agg (hT.map u32V).toArray)] = some (hashL initS zeros64 0).toArray by kernel_rfl)
  go_enter Tryd.func11, Tryd.ntmps11
  go_wp2_with (first | (refine wpList_load_part rfl 46 _ rfl 0 0 rfl (hT.map u32V) hc.out _ Tryd.underlying46 rfl hI.out ?_) | (refine wpList_built rfl 51 0 _ rfl (.agg (hT.map u32V).toArray) rfl (hashL initS zeros64 0).toArray hbd.out ?_))
  go_ret
  exact ⟨rfl, hA, hB⟩

theorem copy_nil (w : World) : Calls Tryd.prog 14 #[.pointer none] w fun e w' => e = .returned (.pointer none) ∧ w' = w := by
  go_enter Tryd.func14, Tryd.ntmps14
  go_wp2
  go_ret
  exact ⟨rfl, rfl⟩
set_option maxRecDepth 100000 in
set_option maxHeartbeats 4000000 in
theorem copy_any (w : World) (g : Nat) (all : List Nat) (h : HashAt w g all) : Calls Tryd.prog 14 #[.pointer (some ⟨g, 0, none⟩)] w fun e w' => e = .returned (.pointer (some ⟨w.heap.size, 0, none⟩)) ∧ HashAt w' w.heap.size all ∧ Below w.heap.size w w' := by
  obtain ⟨hx, part, h1, h2, h3, h4⟩ := h
  obtain ⟨cs, hcs⟩ : ∃ cs, hashL (blksS all (all.length / 64)) part all.length = cs := ⟨_, rfl⟩
  obtain ⟨zs, hzs⟩ : ∃ zs, hashL ⟨0, 0, 0, 0, 0, 0, 0, 0⟩ zeros64 0 = zs := ⟨_, rfl⟩
  have hzl : zs.length = 73 := by rw [← hzs]; exact hashL_length zeros64_length
  have hzv : ∀ W, (zeroValue 51).run Tryd.prog W = .ok (.agg zs.toArray) W := fun W => by rw [← hzs]; kernel_rfl
  have hn : AtL (w.alloc (.cells zs.toArray 51)) w.heap.size 51 zs := AtL.new w _ _
  have hA : HashAt ((w.alloc (.cells zs.toArray 51)).setRow w.heap.size cs.toArray) w.heap.size all := ⟨hx, ⟨part, h1, h2, h3, by rw [hcs]; exact hn.row cs⟩⟩
  have hB : Below w.heap.size w ((w.alloc (.cells zs.toArray 51)).setRow w.heap.size cs.toArray) := below_row ((Below.refl _ _).alloc (Nat.le_refl _) _) (Nat.le_refl _) _
  have hcl : cs.length = 73 := by rw [← hcs]; exact hashL_length h1
  have ho := Lib.hid (show zs.toArray.size = cs.toArray.size by simp [hzl, hcl])
  have h1c := Lib.hid (show cs.toArray.all (·.oneCell') = true from Array.all_eq_true_iff_forall_mem.2 fun v hv => (by rw [← hcs] at hv; exact hashL_one v (by simpa using hv)))
  have hI := Lib.hid (show (Tryd.prog.info? 51).map (·.size) = some cs.toArray.size by
    rw [show cs.toArray.size = 73 by rw [← hcs]; simpa using hashL_length h1]
    kernel_rfl)
  rw [hcs] at h4
  clear hcs h1 h2 h3 hx hzs hzl hcl
  go_enter Tryd.func14, Tryd.ntmps14
  go_wp2_with (first | (refine wpList_load_row rfl 51 _ rfl g rfl 51 cs.toArray (0, 0) _ h4 Tryd.underlying51 rfl hI.out ?_) | (refine wpList_store_row rfl 51 _ _ rfl w.heap.size cs.toArray rfl rfl 51 zs.toArray hn hI.out ho.out h1c.out ?_))
  go_ret
  exact ⟨rfl, hA, hB⟩

end Go.Proofs.YtkailfajemeeaaaDoor.Sha

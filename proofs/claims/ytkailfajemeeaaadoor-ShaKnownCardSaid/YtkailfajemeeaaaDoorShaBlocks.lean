/-
  The iterator of package sha: blocks as they become whole.
-/
import Derived.Test.YtkailfajemeeaaaDoorShaHash
import Derived.Test.YtkailfajemeeaaaDoorShaPadding
import Derived.Test.YtkailfajemeeaaaDoorShaRange
import Derived.Test.YtkailfajemeeaaaDoorShaIn
import Derived.Test.YtkailfajemeeaaaDoorTailIn
import Derived.Sort.CutIn
namespace Go.Proofs.YtkailfajemeeaaaDoor.Sha
open Go.RowKit Go.Sort Go.Shelf Go.Proofs.YtkailfajemeeaaaDoor.Mem Go.Proofs.YtkailfajemeeaaaDoor.Route
set_option linter.unusedVariables false

attribute [local go_sem] Oper.semAt_some

theorem hash_put {s : St8} {part vs : List Nat} {len r : Nat} (h : part.length = 64) (hr : r + vs.length ≤ 64) : putL (hashL s part len) (8 + r) (vs.map u8V) = hashL s (part.take r ++ vs ++ part.drop (r + vs.length)) len := by
  unfold putL hashL
  have h8 : (stL s).length = 8 := rfl
  rw [List.append_assoc (stL s), List.length_map]
  rw [List.take_append, h8, List.take_of_length_le (by rw [h8]; omega), List.drop_append, h8, List.drop_eq_nil_of_le (by rw [h8]; omega)]
  rw [show 8 + r - 8 = r by omega, show 8 + r + vs.length - 8 = r + vs.length by omega]
  rw [List.take_append_of_le_length (by simp [h]; omega), List.drop_append_of_le_length (by simp [h]; omega)]
  simp
theorem hash_state {s s' : St8} {part : List Nat} {len : Nat} : putL (hashL s part len) 0 (stL s') = hashL s' part len := rfl
theorem hash_set {s : St8} {part : List Nat} {len len' : Nat} (h : part.length = 64) : (hashL s part len).set 72 (.int .u64 (len' : Int)) = hashL s part len' := by
  unfold hashL
  rw [List.set_append_right _ _ (by simp [stL, h])]
  simp [stL, h]
theorem hash_lenAt {s : St8} {part : List Nat} {len : Nat} (h : part.length = 64) : (hashL s part len)[72]? = some (.int .u64 (len : Int)) := by
  unfold hashL
  rw [List.getElem?_append_right (by simp [stL, h])]
  simp [stL, h]
theorem hash_partAt {s : St8} {part : List Nat} {len : Nat} : ∀ j v, (part.map u8V)[j]? = some v → (hashL s part len)[8 + j]? = some v := by
  intro j v hv
  have hj := (List.getElem?_eq_some_iff.1 hv).1
  unfold hashL
  have h8 : (stL s).length = 8 := rfl
  rw [List.append_assoc, List.getElem?_append_right (by rw [h8]; omega), h8, show 8 + j - 8 = j by omega, List.getElem?_append_left hj]
  exact hv
theorem hash_stAt {s : St8} {part : List Nat} {len : Nat} : ∀ j v, (stL s)[j]? = some v → (hashL s part len)[0 + j]? = some v := by
  intro j v hv
  have hj := (List.getElem?_eq_some_iff.1 hv).1
  unfold hashL
  rw [List.append_assoc, Nat.zero_add, List.getElem?_append_left hj]
  exact hv

/-- All is as it was but block g and block t. -/
structure Rest (w : World) (g t : Nat) (X : World) : Prop where
  os : X.os = w.os
  tape : X.tape = w.tape
  output : X.output = w.output
  size : w.heap.size ≤ X.heap.size
  block : ∀ k, k < w.heap.size → k ≠ g → k ≠ t → X.heap[k]? = w.heap[k]?
theorem Rest.refl (w : World) (g t : Nat) : Rest w g t w := ⟨rfl, rfl, rfl, Nat.le_refl _, fun _ _ _ _ => rfl⟩
theorem Rest.grown {w X Y : World} {g t : Nat} {row : Option Nat} (h : Rest w g t X) (k : X.grownBy Y row) (hr : ∀ r, row = some r → r = g ∨ r = t ∨ w.heap.size ≤ r) : Rest w g t Y :=
  ⟨k.os.trans h.os, k.tape.trans h.tape, k.output.trans h.output, Nat.le_trans h.size k.size, fun j hj h1 h2 => (k.block j (Nat.lt_of_lt_of_le hj h.size) (fun e => by have := hr j e.symm; omega)).trans (h.block j hj h1 h2)⟩
/-- The hash, the text that is still to be written, and all else, while blocks come. -/
structure StAt (w : World) (g bt bh : Nat) (s : St8) (part : List Nat) (len : Nat) (txt : List Nat) (X : World) : Prop where
  hash : AtL X g 51 (hashL s part len)
  text : At X bt 9 #[.string (strOf txt)]
  hptr : At X bh 28 #[.pointer (some ⟨g, 0, none⟩)]
  rest : Rest w g bt X
theorem StAt.stays {w X Y : World} {g bt bh : Nat} {s : St8} {part : List Nat} {len : Nat} {txt : List Nat} {row : Option Nat} (h : StAt w g bt bh s part len txt X) (k : X.grownBy Y row) (hr : ∀ r, row = some r → w.heap.size ≤ r) (hg : g < w.heap.size) (ht : bt < w.heap.size) (hh : bh < w.heap.size) : StAt w g bt bh s part len txt Y :=
  ⟨(k.block g h.hash.inside (fun e => by have := hr g e.symm; omega)).trans h.hash, (k.block bt h.text.inside (fun e => by have := hr bt e.symm; omega)).trans h.text, (k.block bh h.hptr.inside (fun e => by have := hr bh e.symm; omega)).trans h.hptr, h.rest.grown k (fun r e => .inr (.inr (hr r e)))⟩

/-- Behind so many bytes of the whole text. -/
def Mid (w : World) (g bt bh : Nat) (new : List Nat) (len : Nat) (X : World) : Prop :=
  ∃ part : List Nat, part.length = 64 ∧ Bytes part ∧ part.take (len % 64) = (new.take len).drop (64 * (len / 64)) ∧ StAt w g bt bh (blksS new (len / 64)) part len (new.drop len) X
def blkL (new : List Nat) (j : Nat) : List Nat := (new.drop (64 * j)).take 64
def PreB (w : World) (g bt bh : Nat) (new : List Nat) (q k : Nat) (X : World) : Prop :=
  64 * (q + k + 1) ≤ new.length ∧ StAt w g bt bh (blksS new (q + k)) (blkL new (q + k)) (64 * (q + k + 1)) (new.drop (64 * (q + k + 1))) X
def PostB (w : World) (g bt bh : Nat) (new : List Nat) (q k : Nat) (X : World) : Prop := ∃ len, len ≤ new.length ∧ len / 64 = q + k ∧ Mid w g bt bh new len X

/-- What a copy makes of the part. -/
theorem part_step {new part : List Nat} {len : Nat} (hl : part.length = 64) (hp : part.take (len % 64) = (new.take len).drop (64 * (len / 64))) (hlt : len < new.length) {n : Nat} (hn : min (new.length - len) (64 - len % 64) = n) :
    0 < n ∧ len + n ≤ new.length ∧ ((new.drop len).take n).length = n ∧ (part.take (len % 64) ++ (new.drop len).take n ++ part.drop (len % 64 + n)).length = 64 ∧
      ((len + n) % 64 = 0 → len + n = 64 * (len / 64 + 1) ∧ part.take (len % 64) ++ (new.drop len).take n ++ part.drop (len % 64 + n) = blkL new (len / 64)) ∧
      ((len + n) % 64 ≠ 0 → len + n = new.length ∧ (len + n) / 64 = len / 64 ∧ (part.take (len % 64) ++ (new.drop len).take n ++ part.drop (len % 64 + n)).take ((len + n) % 64) = (new.take (len + n)).drop (64 * ((len + n) / 64))) := by
  have e1 : ((new.drop len).take n).length = n := by simp; omega
  have e2 : (part.take (len % 64)).length = len % 64 := by simp; omega
  have key : part.take (len % 64) ++ (new.drop len).take n = (new.take (len + n)).drop (64 * (len / 64)) := by
    rw [hp, List.take_add, List.drop_append_of_le_length (by simp; omega)]
  refine ⟨by omega, by omega, e1, by rw [List.length_append, List.length_append, e1, e2]; simp; omega, fun hz => ?_, fun hz => ?_⟩
  · have e3 : len + n = 64 * (len / 64 + 1) := by omega
    refine ⟨e3, ?_⟩
    rw [show part.drop (len % 64 + n) = [] from List.drop_eq_nil_of_le (by rw [hl]; omega), List.append_nil, key, blkL, List.drop_take]
    congr 1
    omega
  · have e3 : len + n = new.length := by omega
    have e4 : (len + n) / 64 = len / 64 := by omega
    have e5 : (len + n) % 64 = len % 64 + n := by omega
    refine ⟨e3, e4, ?_⟩
    rw [e4, e5, List.take_append_of_le_length (by simp; omega), ← key, List.take_of_length_le (by rw [List.length_append, e1, e2]; omega)]

theorem bytes_part {part T : List Nat} {r n : Nat} (h1 : Bytes part) (h2 : Bytes T) : Bytes (part.take r ++ T.take n ++ part.drop (r + n)) := by
  intro x hx
  rcases List.mem_append.1 hx with hx | hx
  · rcases List.mem_append.1 hx with hx | hx
    · exact h1 x (List.mem_of_mem_take hx)
    · exact h2 x (List.mem_of_mem_take hx)
  · exact h1 x (List.mem_of_mem_drop hx)
/-- What a piece of the text makes of the hash: three stores. -/
def pieceW (X : World) (g bt : Nat) (s : St8) (part' : List Nat) (len len' : Nat) (txt' : List Nat) : World :=
  ((X.setRow g (hashL s part' len).toArray).setCell ⟨g, 72, none⟩ (.int .u64 (len' : Int))).setCell ⟨bt, 0, none⟩ (.string (strOf txt'))
theorem piece_at {w X : World} {g bt bh : Nat} {s : St8} {part part' : List Nat} {len len' : Nat} {txt txt' : List Nat} (h : StAt w g bt bh s part len txt X) (hl : part'.length = 64) (hgt : g ≠ bt) (hgh : g ≠ bh) (hth : bt ≠ bh) :
    StAt w g bt bh s part' len' txt' (pieceW X g bt s part' len len' txt') := by
  unfold pieceW
  have h1 := (h.hash.row (hashL s part' len)).put 72 (.int .u64 (len' : Int))
  rw [hash_set hl] at h1
  refine ⟨h1.far hgt 0 _, ?_, ((At.rowFar h.hptr (Ne.symm hgh) _).far (Ne.symm hgh) 72 _).far (Ne.symm hth) 0 _, ?_⟩
  · have h2 := (((At.rowFar h.text (Ne.symm hgt) (hashL s part' len).toArray).far (Ne.symm hgt) 72 (.int .u64 (len' : Int))).put 0 (.string (strOf txt')))
    simpa using h2
  · have hr := h.rest
    exact ⟨hr.os, hr.tape, hr.output, by simpa using hr.size, fun k hk h1 h2 => (Below.heap_setCell _ _ _ k (by simpa using h2)).trans ((Below.heap_setCell _ _ _ k (by simpa using h1)).trans ((setRow_other _ _ _ _ h1).trans (hr.block k hk h1 h2)))⟩
theorem piece_apart {X : World} {n g bt : Nat} {s : St8} {part' : List Nat} {len len' : Nat} {txt' : List Nat} {H : World → Prop} (hA : Apart n H) (hX : H X) (hg : g < n) (ht : bt < n) : H (pieceW X g bt s part' len len' txt') := by
  unfold pieceW
  have h1 := hA _ (X.setRow g (hashL s part' len).toArray) (some g) hX ⟨rfl, rfl, rfl, by simp, fun k _ hk => setRow_other _ _ _ _ (fun e => hk (by rw [e]))⟩ (fun r e => by cases e; omega)
  have h2 := hA _ ((X.setRow g (hashL s part' len).toArray).setCell ⟨g, 72, none⟩ (.int .u64 (len' : Int))) (some g) h1 ⟨rfl, rfl, rfl, by simp, fun k _ hk => Below.heap_setCell _ _ _ k (fun e => hk (by rw [e]))⟩ (fun r e => by cases e; omega)
  exact hA _ _ (some bt) h2 ⟨rfl, rfl, rfl, by simp, fun k _ hk => Below.heap_setCell _ _ _ k (fun e => hk (by rw [e]))⟩ (fun r e => by cases e; omega)
theorem drop_more {new : List Nat} {len n : Nat} : (new.drop len).drop n = new.drop (len + n) := List.drop_drop
theorem str_extract (l : List Nat) (n : Nat) : (strOf l).extract n (strOf l).size = strOf (l.drop n) := by
  rw [strOf_size]
  unfold strOf
  rw [ByteArray.extract_mk, List.map_drop, List.take_of_length_le (by simp)]
theorem str_toList (l : List Nat) : (strOf l).toList = l.map UInt8.ofNat := by
  unfold strOf
  rw [ByteArray.toList_mk]
theorem str_empty {l : List Nat} (h : l ≠ []) : (strOf l).toList.isEmpty = false := by
  rw [str_toList]
  match l, h with
  | x :: r, _ => rfl
def encB (b : List Nat) : Array Value := #[.agg (b.map u8V).toArray]
def strLen (W : World) (a : Addr) : Nat := match W.cell? a with
  | some (.string s) => s.size
  | _ => 0

theorem slice_part (g len r : Nat) (hr : len % 64 = r) (W : World) : (Instr.sliceAt 48 (.pointer (some ⟨g, 8, none⟩)) (some (.int .u64 ((len : Int) % 64))) none none).run Tryd.prog W = .ok (.slice (some ⟨g, 8 + r, none⟩) (64 - r) (64 - r)) W := by
  have hA : Tryd.prog.arrayLen 48 = 64 := by kernel_rfl
  have e1 := run_sliceAt_array_l (P := Tryd.prog) W 48 ⟨g, 8, none⟩ (by kernel_rfl) .u64 ((len : Int) % 64) (by omega) (by rw [hA]; omega)
  have e2 : (sizeOf (Tryd.prog.elem 48)).run Tryd.prog W = .ok 1 W := by kernel_rfl
  rw [e1, e2, hA, show ((len : Int) % 64).toNat = r by omega]
  have hne : ¬ 64 = r := by omega
  have hadd : (⟨g, 8, none⟩ : Addr).add (r * 1) = ⟨g, 8 + r, none⟩ := by rw [Nat.mul_one]; unfold Addr.add; split <;> simp_all
  simp only [Result.andThen, slicedAt, if_neg hne, hadd]

set_option maxRecDepth 100000 in
set_option maxHeartbeats 4000000 in
theorem blocks_gives (w : World) (g bt bh : Nat) (new : List Nat) (q : Nat) (hnew : Bytes new) (hsz : new.length < 1000000) (hg : g < w.heap.size) (ht : bt < w.heap.size) (hh : bh < w.heap.size) (hgt : g ≠ bt) (hgh : g ≠ bh) (hth : bt ≠ bh) :
    GivesS Tryd.prog 27 #[.pointer (some ⟨bt, 0, none⟩), .pointer (some ⟨bh, 0, none⟩)] encB ((List.range (new.length / 64 - q)).map fun k => blkL new (q + k)) w.heap.size (PreB w g bt bh new q) (PostB w g bt bh new q) (Mid w g bt bh new new.length) := by
  intro l H W hWs h0 hH hAp hY
  refine callsIn_of_wp Tryd.func27 rfl trivial ?_ rfl
  simp only [Tryd.ntmps27, List.size_toArray, List.length_cons, List.length_nil, Nat.reduceAdd, Nat.reduceSub, Array.replicate_succ, Array.replicate_zero, List.push_toArray, List.append_toArray, List.nil_append, List.cons_append]
  obtain ⟨n, hn⟩ : ∃ n, w.heap.size = n := ⟨_, rfl⟩
  rw [hn] at hg ht hh hWs hAp
  replace hn := Lib.hid hn
  replace hY := Lib.hid hY
  replace hAp := Lib.hid hAp
  obtain ⟨NL, hNL⟩ : ∃ NL, new.length = NL := ⟨_, rfl⟩
  rw [hNL] at hsz ⊢
  replace hNL := Lib.hid hNL
  have h0' : ∃ len, len ≤ NL ∧ q ≤ len / 64 ∧ Hid (Mid w g bt bh new len W) := by
    obtain ⟨len, h1, h2, h3⟩ := h0
    exact ⟨len, by rw [← hNL.out]; exact h1, by omega, Lib.hid h3⟩
  clear h0
  gi_wp2
  gi_loopw [4] (fun _ wr => (∃ len, len ≤ NL ∧ q ≤ len / 64 ∧ Hid (Mid w g bt bh new len wr)) ∧ Hid (H wr))
    (fun _ wr => strLen wr ⟨bt, 0, none⟩)
  case atStart => exact ⟨h0', Lib.hid hH⟩
  case round =>
    clear h0' hH
    obtain ⟨wi, hwi⟩ : ∃ wi, wi = wr := ⟨_, rfl⟩
    subst hwi
    obtain ⟨⟨len, hlen, hq, hM⟩, hH⟩ := hrel
    obtain ⟨part, hp1, hp2, hp3, hS⟩ := hM.out
    by_cases hlt : len < NL
    · obtain ⟨T, hT⟩ : ∃ T, new.drop len = T := ⟨_, rfl⟩
      have hTl : T.length = NL - len := by rw [← hT, List.length_drop, hNL.out]
      have hTb : Bytes T := fun x hx => hnew x (by rw [← hT] at hx; exact List.mem_of_mem_drop hx)
      have hTe := str_empty (l := T) (by intro e; rw [e] at hTl; simp at hTl; omega)
      obtain ⟨m, hm⟩ : ∃ m, min (new.length - len) (64 - len % 64) = m := ⟨_, rfl⟩
      obtain ⟨f1, f2, f3, f4, f5, f6⟩ := part_step hp1 hp3 (by rw [hNL.out]; exact hlt) hm
      rw [hNL.out] at hm f2 f6
      rw [hT] at f3 f4 f5 f6
      have hpb' := bytes_part (r := len % 64) (n := m) hp2 hTb
      obtain ⟨part', hp'⟩ : ∃ part', part.take (len % 64) ++ T.take m ++ part.drop (len % 64 + m) = part' := ⟨_, rfl⟩
      rw [hp'] at f4 f5 f6 hpb'
      obtain ⟨r, hr⟩ : ∃ r, len % 64 = r := ⟨_, rfl⟩
      obtain ⟨len', hlen'⟩ : ∃ len', len + m = len' := ⟨_, rfl⟩
      rw [hlen'] at f2 f5 f6
      have hdrop : T.drop m = new.drop len' := by rw [← hT, drop_more, hlen']
      obtain ⟨T', hT'⟩ : ∃ T', T.drop m = T' := ⟨_, rfl⟩
      rw [hT'] at hdrop
      subst hdrop
      obtain ⟨s, hs⟩ : ∃ s, blksS new (len / 64) = s := ⟨_, rfl⟩
      rw [hT, hs] at hS
      have er : (len : Int) % 64 = (r : Int) := by omega
      have el : (len : Int) + (m : Int) = (len' : Int) := by omega
      have hr64 : r < 64 := by omega
      have hsl := slice_part g len r hr
      clear er
      have c1 : wi.cell? ⟨bt, 0, none⟩ = some (.string (strOf T)) := by simpa using hS.text.cell 0
      have c2 : wi.cell? ⟨bh, 0, none⟩ = some (.pointer (some ⟨g, 0, none⟩)) := by simpa using hS.hptr.cell 0
      have c3 : wi.cell? ⟨g, 72, none⟩ = some (.int .u64 (len : Int)) := hS.hash.get (hash_lenAt hp1)
      have k1 := cell_regrown c1
      have k2 := cell_regrown c2
      have k3 := cell_regrown c3
      have hlenS : strLen wi ⟨bt, 0, none⟩ = NL - len := by
        unfold strLen
        rw [c1]
        exact (strOf_size T).trans hTl
      have hput := hash_put (s := s) (part := part) (vs := T.take m) (len := len) (r := r) hp1 (by rw [f3]; omega)
      rw [f3, ← hr, hp', hr] at hput
      have hTs := strOf_size T
      rw [hTl] at hTs
      have hml : (m : Int) ≤ ((NL - len : Nat) : Int) := by omega
      replace hM := Lib.hid hM
      gi_upto_region 1 with fail
      refine Tail.wpIn_region_below_tail 10 (by kernel_rfl) (by kernel_rfl) (by kernel_rfl) ?_
      simp only [List.take_succ_cons, List.take_zero, List.drop_succ_cons, List.drop_zero]
      repeat (go_big_quiet_step (fail))
      refine wpQuiet_nil ?_
      intro _ hw'
      obtain ⟨⟨dq, osq⟩, hw''⟩ := hw'
      subst hw''
      have hgr := below_regrown wi dq osq
      have hgn : wi.grownBy (grow (redrawn wi dq) osq) none := ⟨hgr.os, hgr.tape, hgr.output, hgr.size, fun k hk _ => hgr.block k hk⟩
      have hSt := hS.stays hgn (fun r e => by cases e) (by rw [hn.out]; exact hg) (by rw [hn.out]; exact ht) (by rw [hn.out]; exact hh)
      have hHt := hAp.out _ _ none hH.out hgn (fun r e => by cases e)
      clear k1 k2 k3 c1 c2 c3 hgr hgn hS hH hM
      generalize grow (redrawn wi dq) osq = wt at *
      have hcp := run_copy_str (P := Tryd.prog) wt 35 9 3 5 g (8 + r) (64 - r) (64 - r) 51 (hashL s part len) T hTb Tryd.underlying35 (by kernel_rfl) hSt.hash m (by rw [hTl, ← hr]; exact hm) (by rw [hashL_length hp1]; omega)
      rw [hput] at hcp
      have hS3 : StAt w g bt bh s part' len' (new.drop len') (((wt.setRow g (hashL s part' len).toArray).setCell ⟨g, 72, none⟩ (.int .u64 (len' : Int))).setCell ⟨bt, 0, none⟩ (.string (strOf (new.drop len')))) := piece_at hSt f4 hgt hgh hth
      have hH3 : H (((wt.setRow g (hashL s part' len).toArray).setCell ⟨g, 72, none⟩ (.int .u64 (len' : Int))).setCell ⟨bt, 0, none⟩ (.string (strOf (new.drop len')))) := piece_apart hAp.out hHt hg ht
      have hr1 : AtL (wt.setRow g (hashL s part' len).toArray) g 51 (hashL s part' len) := hSt.hash.row _
      have hr2 : At (wt.setRow g (hashL s part' len).toArray) bh 28 #[.pointer (some ⟨g, 0, none⟩)] := At.rowFar hSt.hptr (Ne.symm hgh) _
      have hr3 : At (wt.setRow g (hashL s part' len).toArray) bt 9 #[.string (strOf T)] := At.rowFar hSt.text (Ne.symm hgt) _
      generalize wt.setRow g (hashL s part' len).toArray = X1 at *
      have c2 : X1.cell? ⟨bh, 0, none⟩ = some (.pointer (some ⟨g, 0, none⟩)) := by simpa using hr2.cell 0
      have c3 : X1.cell? ⟨g, 72, none⟩ = some (.int .u64 (len : Int)) := hr1.get (hash_lenAt f4)
      have c4 := hr1.free 72
      have hr4 := hr3.far (Ne.symm hgt) 72 (.int .u64 (len' : Int))
      have c5 : (X1.setCell ⟨g, 72, none⟩ (.int .u64 (len' : Int))).cell? ⟨bt, 0, none⟩ = some (.string (strOf T)) := by simpa using hr4.cell 0
      have c6 := hr4.free 0
      have hex := str_extract T m
      rw [hT', hTs] at hex
      clear hr1 hr2 hr3 hr4 hSt hHt hput
      gi_upto_region 4 with (refine wpListIn_copy rfl _ _ _ _ rfl _ _ rfl rfl _ _ hcp ?_)
      generalize ((X1.setCell ⟨g, 72, none⟩ (.int .u64 (len' : Int))).setCell ⟨bt, 0, none⟩ (.string (strOf (new.drop len')))) = w3 at *
      clear hcp c2 c3 c4 c5 c6 hex hsl hTe hTs
      have d1 : w3.cell? ⟨bh, 0, none⟩ = some (.pointer (some ⟨g, 0, none⟩)) := by simpa using hS3.hptr.cell 0
      have d2 : w3.cell? ⟨g, 72, none⟩ = some (.int .u64 (len' : Int)) := hS3.hash.get (hash_lenAt f4)
      have hmz : strLen wi ⟨bt, 0, none⟩ = NL - len := hlenS
      by_cases hz : len' % 64 = 0
      · obtain ⟨g1, g2⟩ := f5 hz
        obtain ⟨k, hk⟩ : ∃ k, len / 64 = q + k := ⟨len / 64 - q, by omega⟩
        have hpre : PreB w g bt bh new q k w3 := by
          refine ⟨by rw [hNL.out]; omega, ?_⟩
          rw [← hk, hs, ← g2, ← g1]
          exact hS3
        have hxk : ((List.range (new.length / 64 - q)).map fun k => blkL new (q + k))[k]? = some (blkL new (q + k)) := by
          rw [List.getElem?_map, List.getElem?_range (by rw [hNL.out]; omega)]
          rfl
        obtain ⟨fn, tmps, assign, body, hyy, hR⟩ := hY.out 1 k _ w3 hxk hpre hH3
        dsimp only [encB] at hyy
        rw [← hk, ← g2] at hyy
        have hpc : ∀ j v, (part'.map u8V)[j]? = some v → w3.cell? ⟨g, 8 + j, none⟩ = some v := fun j v hv => hS3.hash.get (hash_partAt j v hv)
        have hIp := Lib.hid (show (Tryd.prog.info? 48).map (·.size) = some (part'.map u8V).length by rw [List.length_map, f4]; kernel_rfl)
        have ez : (len' : Int) % 64 = 0 := by omega
        replace hpc := Lib.hid hpc
        replace hR := Lib.hid hR
        replace hk := Lib.hid hk
        replace g1 := Lib.hid g1
        clear g2 hS3 hpre hxk f5 f6 hp3
        gi_wp2_with (refine wpListIn_load_part (by simp [Region.wanted, yielded]) 48 _ rfl g 8 rfl (part'.map u8V) hpc.out _ Tryd.underlying48 rfl hIp.out ?_)
        refine hR.out.mono ?_
        rintro e W4 ⟨rfl, hpo, hH4, -⟩
        obtain ⟨len2, o1, o2, o3⟩ := hpo
        have hrel2 := Lib.hid (show ∃ len, len ≤ NL ∧ q ≤ len / 64 ∧ Hid (Mid w g bt bh new len W4) from ⟨len2, by rw [← hNL.out]; exact o1, by omega, Lib.hid o3⟩)
        have hm2 : strLen W4 ⟨bt, 0, none⟩ = NL - len2 := by
          obtain ⟨p2, -, -, -, hS4⟩ := o3
          have := hS4.text.cell 0
          unfold strLen
          rw [show W4.cell? ⟨bt, 0, none⟩ = some (.string (strOf (new.drop len2))) by simpa using this]
          exact (strOf_size _).trans (by rw [List.length_drop, hNL.out])
        have hless := Lib.hid (show strLen W4 ⟨bt, 0, none⟩ < strLen wi ⟨bt, 0, none⟩ by
          rw [hm2, hmz]
          have := hk.out
          have : len < len2 := by omega
          omega)
        clear o1 o2 o3 hm2 hmz hR hpc hyy
        gi_wp2
        go_roundw
        case rel => exact ⟨hrel2.out, Lib.hid hH4⟩
        case measure => exact hless.out
      · obtain ⟨g1, g2, g3⟩ := f6 hz
        have hrel2 := Lib.hid (show ∃ len, len ≤ NL ∧ q ≤ len / 64 ∧ Hid (Mid w g bt bh new len w3) from ⟨len', f2, by rw [g2]; exact hq, Lib.hid ⟨part', f4, hpb', g3, by rw [g2, hs]; exact hS3⟩⟩)
        have hless := Lib.hid (show strLen w3 ⟨bt, 0, none⟩ < strLen wi ⟨bt, 0, none⟩ by
          rw [hmz]
          unfold strLen
          rw [show w3.cell? ⟨bt, 0, none⟩ = some (.string (strOf (new.drop len'))) by simpa using hS3.text.cell 0]
          show (strOf (new.drop len')).size < _
          rw [strOf_size, List.length_drop, hNL.out]
          omega)
        have ez : ¬ ((len' : Int) % 64 = 0) := by omega
        have ezb : ((len' : Int) % 64 == 0) = false := by simpa using ez
        replace hH3 := Lib.hid hH3
        clear g1 g2 g3 f5 f6 hp3 hS3 hmz
        gi_wp2
        refine ⟨fun _ h => (by cases h), ?_⟩
        gi_wp2
        go_roundw
        case rel => exact ⟨hrel2.out, hH3⟩
        case measure => exact hless.out
    · obtain rfl : len = NL := by omega
      have hTe : (strOf (new.drop len)).toList.isEmpty = true := by
        rw [List.drop_eq_nil_of_le (by rw [hNL.out]; omega), str_toList]
        rfl
      have c1 : wi.cell? ⟨bt, 0, none⟩ = some (.string (strOf (new.drop len))) := by simpa using hS.text.cell 0
      gi_wp2
      go_end0
      exact ⟨⟨_, rfl⟩, hM.out, hH.out⟩

end Go.Proofs.YtkailfajemeeaaaDoor.Sha

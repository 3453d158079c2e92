/-
  A row of bytes of the call's own, in a block that may bear a mark behind its cells: made of a text, of zeros, grown by one. Nothing here speaks of a program.
-/
import Derived.Test.YtkailfajemeeaaaDoorShaArr
import Derived.Laws.IdiomStrings
import Derived.Laws.AppendOwn
import Derived.Lib.AppendZerosOnto
namespace Go.Proofs.YtkailfajemeeaaaDoor.Sha
open Go.RowKit Go.Proofs.YtkailfajemeeaaaDoor.Mem
set_option linter.unusedVariables false
variable {P : Program}

theorem AtL.grown {w v : World} {g : Nat} {t : TypeId} {cs : List Value} {r : Nat} (h : AtL w g t cs) (hg : w.grownBy v (some r)) (hne : g ≠ r) : AtL v g t cs := (hg.block g h.inside (by simpa using hne)).trans h
theorem grown_below {u w v : World} {r : Option Nat} (h : u.grownBy w r) (hb : Below w.heap.size w v) : u.grownBy v r :=
  ⟨hb.os.trans h.os, hb.tape.trans h.tape, hb.output.trans h.output, Nat.le_trans h.size hb.size, fun k hk hne => (hb.block k (Nat.lt_of_lt_of_le hk h.size)).trans (h.block k hk hne)⟩
theorem grown_row {u w : World} {r : Nat} (h : u.grownBy w (some r)) (cs : Array Value) : u.grownBy (w.setRow r cs) (some r) :=
  ⟨h.os, h.tape, h.output, by rw [setRow_size]; exact h.size, fun k hk hne => (setRow_other w r k cs (by simpa using hne)).trans (h.block k hk hne)⟩

/-- The slice v, from its block's first cell on, holds these values; no cell of it is frozen. -/
structure RowM (W : World) (base : Nat) (v : Value) (l : List Value) (g cap : Nat) : Prop where
  is : v = .slice (some ⟨g, 0, none⟩) l.length cap
  base : base ≤ g
  inside : g < W.heap.size
  fits : l.length ≤ cap
  most : cap ≤ maxLen
  cells : ∀ j u, l[j]? = some u → W.cell? ⟨g, j, none⟩ = some u
  there : ∀ j, j < cap → (W.cell? ⟨g, j, none⟩).isSome = true
  free : ∀ j, j < cap → W.frozen? ⟨g, j, none⟩ = false
theorem frozen_same {w v : World} {g j : Nat} (h : v.heap[g]? = w.heap[g]?) : v.frozen? ⟨g, j, none⟩ = w.frozen? ⟨g, j, none⟩ := by simp only [World.frozen?]; rw [h]
theorem cell_same {w v : World} {g j : Nat} (h : v.heap[g]? = w.heap[g]?) : v.cell? ⟨g, j, none⟩ = w.cell? ⟨g, j, none⟩ := by simp only [World.cell?]; rw [h]
theorem RowM.same {w w' : World} {base g cap : Nat} {v : Value} {l : List Value} (h : RowM w base v l g cap) (hb : w'.heap[g]? = w.heap[g]?) (hs : w.heap.size ≤ w'.heap.size) : RowM w' base v l g cap :=
  ⟨h.is, h.base, Nat.lt_of_lt_of_le h.inside hs, h.fits, h.most, fun j u hu => (cell_same hb).trans (h.cells j u hu), fun j hj => by rw [cell_same hb]; exact h.there j hj, fun j hj => (frozen_same hb).trans (h.free j hj)⟩
theorem RowM.on {w w' : World} {base g cap : Nat} {v : Value} {l : List Value} (h : RowM w base v l g cap) (hb : Below w.heap.size w w') : RowM w' base v l g cap := h.same (hb.block g h.inside) hb.size
theorem RowM.alloc {w : World} {base g cap : Nat} {v : Value} {l : List Value} (h : RowM w base v l g cap) (o : Obj) : RowM (w.alloc o) base v l g cap := h.same (Below.heap_alloc w o g h.inside) (by simp)
/-- A new block. -/
theorem RowM.new (w : World) (base : Nat) (t : TypeId) (l : List Value) (z : List Value) (hb : base ≤ w.heap.size) (hm : (l ++ z).length ≤ maxLen) : RowM (w.alloc (.cells (l ++ z).toArray t)) base (.slice (some ⟨w.heap.size, 0, none⟩) l.length (l ++ z).length) l w.heap.size (l ++ z).length := by
  have hA := AtL.new w t (l ++ z)
  exact ⟨rfl, hb, by simp, by simp, hm, fun j u hu => by
    have hj := (List.getElem?_eq_some_iff.1 hu).1
    rw [hA.cell, List.getElem?_append_left hj]
    exact hu, fun j hj => by rw [hA.cell, List.getElem?_eq_getElem hj]; rfl, fun j _ => hA.free j⟩

theorem append_one_room (w : World) (t ty e : TypeId) (i : TypeInfo) (ht : P.underlying t = some (.slice e)) (hi : P.info? e = some i) (hs1 : i.size = 1) (g n cap : Nat) (a : Addr) (c : Nat) (x : Value)
    (hx : w.cell? a = some x) (hone : x.oneCell' = true) (hroom : n + 1 ≤ cap) (hc : (w.cell? ⟨g, n, none⟩).isSome = true) (hf : w.frozen? ⟨g, n, none⟩ = false) :
    (Builtin.append_ #[t, t] ty #[.slice (some ⟨g, 0, none⟩) n cap, .slice (some a) 1 c]).run P w = .ok (.slice (some ⟨g, 0, none⟩) (n + 1) cap) (w.setCell ⟨g, n, none⟩ x) := by
  have ha0 : a.add 0 = a := by unfold Addr.add; split <;> simp_all
  have hl : (loadCells a 1).run P w = .ok #[x] w := by
    have := run_loadCells_list (P := P) w a [x] (fun j v hj => by
      match j, hj with
      | 0, hj =>
        simp at hj
        subst hj
        rw [ha0]
        exact hx)
    simpa using this
  obtain ⟨u, hu⟩ := Option.isSome_iff_exists.1 hc
  have hst : (store ⟨g, n, none⟩ x).run P w = .ok () (w.setCell ⟨g, n, none⟩ x) := by
    rw [run_store P w _ x _ hone]
    simp [hu, hf]
  have hadd : ∀ k : Nat, (⟨g, k, none⟩ : Addr).add 0 = ⟨g, k, none⟩ := fun k => by unfold Addr.add; split <;> simp_all
  have hadd0 : (⟨g, 0, none⟩ : Addr).add n = ⟨g, n, none⟩ := by unfold Addr.add; split <;> simp_all
  simp [Builtin.append_, run_underlying ht, sizeOf, typeInfo, hi, hs1, Builtin.lenOf, Builtin.firstCells, hroom, hl, hadd, hadd0, storeCells, hst]

theorem append_one (w : World) (base : Nat) (t ty e : TypeId) (i : TypeInfo) (ht : P.underlying t = some (.slice e)) (hi : P.info? e = some i) (hz : i.zero = some (.int .u8 0)) (hs1 : i.size = 1) (hb1 : i.bytes = 1)
    {v : Value} {l : List Value} {g cap : Nat} (h : RowM w base v l g cap) (a : Addr) (c : Nat) (x : Value) (hx : w.cell? a = some x) (hone : x.oneCell' = true) (hlen : l.length < 1000000) (hbase : base ≤ w.heap.size) :
    ∃ v' w' g' cap', (Builtin.append_ #[t, t] ty #[v, .slice (some a) 1 c]).run P w = .ok v' w' ∧ RowM w' base v' (l ++ [x]) g' cap' ∧ w.grownBy w' (some g) := by
  obtain ⟨rfl, h1, h2, h3, h4, h5, h6, h7⟩ := h
  have ha0 : a.add 0 = a := by unfold Addr.add; split <;> simp_all
  by_cases hroom : l.length + 1 ≤ cap
  · have hr := append_one_room (P := P) w t ty e i ht hi hs1 g l.length cap a c x hx hone hroom (h6 _ (by omega)) (h7 _ (by omega))
    obtain ⟨u, hu⟩ := Option.isSome_iff_exists.1 (h6 l.length (by omega))
    refine ⟨_, _, g, cap, hr, ⟨by simp, h1, by simpa using h2, by simpa using hroom, h4, fun j y hy => ?_, fun j hj => ?_, fun j hj => by rw [World.frozen?_setCell]; exact h7 j hj⟩,
      ⟨rfl, rfl, rfl, by simp, fun k _ hk => Below.heap_setCell w _ x k (fun e => hk (by rw [e]))⟩⟩
    · by_cases hj : j = l.length
      · subst hj
        simp at hy
        subst hy
        exact World.cell?_setCell_same _ _ _ hu
      · rw [World.cell?_setCell_other _ _ _ _ (by simp; try omega)]
        have hjl := (List.getElem?_eq_some_iff.1 hy).1
        simp at hjl
        rw [List.getElem?_append_left (by omega)] at hy
        exact h5 j y hy
    · by_cases hj' : j = l.length
      · subst hj'
        rw [World.cell?_setCell_same _ _ _ hu]
        rfl
      · rw [World.cell?_setCell_other _ _ _ _ (by simp; try omega)]
        exact h6 j hj
  · have hr := run_append_grow (P := P) w t ty e i (.int .u8 0) ht hi hz ⟨g, 0, none⟩ l.length cap l (by rw [hs1]; omega) (fun j u hu => by
      have : (⟨g, 0, none⟩ : Addr).add j = ⟨g, j, none⟩ := by unfold Addr.add; split <;> simp_all
      rw [this]
      exact h5 j u hu) a 1 c [x] (by rw [hs1]; rfl) (fun j u hu => by
      match j, hu with
      | 0, hu =>
        simp at hu
        subst hu
        rw [ha0]
        exact hx) (by omega) (by omega) (growslice_fits (by omega) (by rw [hb1]; omega))
    have hge := grownCap_ge w (l.length + 1) cap e
    have hcm := grownCap_le_maxLen w (l.length + 1) cap e (by unfold maxLen; omega)
    obtain ⟨C, hC⟩ : ∃ C, grownCap w (l.length + 1) cap e = C := ⟨_, rfl⟩
    rw [hC] at hr hge hcm
    obtain ⟨z, hzz⟩ : ∃ z : List Value, Builtin.zeroCells (Value.int IntKind.u8 0).cells (C - (l.length + 1)) = z.toArray := ⟨(Builtin.zeroCells (Value.int IntKind.u8 0).cells (C - (l.length + 1))).toList, by simp⟩
    have hzl : z.length = C - (l.length + 1) := by
      have := size_zeroCells (Value.int IntKind.u8 0).cells (C - (l.length + 1))
      rw [hzz] at this
      simpa [Value.cells] using this
    have hN := RowM.new w.drew base e (l ++ [x]) z hbase (by simp; omega)
    rw [show (l ++ [x] ++ z).length = C by simp; omega] at hN
    have hobj : (l.toArray ++ [x].toArray ++ Builtin.zeroCells (Value.int IntKind.u8 0).cells (C - (l.length + 1))) = (l ++ [x] ++ z).toArray := by rw [hzz]; simp
    rw [hobj] at hr
    rw [show (l ++ [x]).length = l.length + 1 by simp] at hN
    refine ⟨_, _, _, C, hr, ⟨by simp, hN.base, hN.inside, by simpa using hge, hcm, hN.cells, hN.there, hN.free⟩, ⟨rfl, rfl, rfl, by simp, fun k hk _ => Below.heap_alloc w.drew _ k hk⟩⟩

/-- What '[]byte(s)' makes. -/
theorem of_string (w : World) (base : Nat) (src dst e : TypeId) (s : ByteArray) (hs : P.underlying src = some .string) (hd : P.underlying dst = some (.slice e)) (he : P.underlying e = some (.int .u8)) (hlen : s.size < 1000000) (hb : base ≤ w.heap.size) :
    ∃ v w' g cap, (convert src dst (.string s)).run P w = .ok v w' ∧ RowM w' base v (s.data.toList.map fun b => .int .u8 (b.toNat : Int)) g cap ∧ Below w.heap.size w w' := by
  have hr := run_bytes_of_string (P := P) w src dst e s hs hd he
  have hge := grownCap_ge w s.size 0 e
  have hcm := grownCap_le_maxLen w s.size 0 e (by unfold maxLen; omega)
  obtain ⟨C, hC⟩ : ∃ C, grownCap w s.size 0 e = C := ⟨_, rfl⟩
  rw [hC] at hr hge hcm
  have hsz : (bytesRow s C).size = C := by
    have hss : s.size = s.data.size := rfl
    rw [hss] at hge
    unfold bytesRow
    rw [hss, Array.size_append, Array.size_map, Array.size_replicate]
    omega
  have hll : (s.data.toList.map fun b => Value.int .u8 (b.toNat : Int)).length = s.size := by
    rw [List.length_map, Array.length_toList]
    rfl
  refine ⟨_, _, w.heap.size, C, hr, ⟨by rw [hll], hb, by simp, by rw [hll]; exact hge, hcm, fun j u hu => ?_, fun j hj => ?_, fun j hj => ?_⟩, ⟨rfl, rfl, rfl, by simp, fun k hk => Below.heap_alloc w.drew _ k hk⟩⟩
  · have h := World.cell?_alloc_mark w.drew (bytesRow s C) e ((bytesRow s C).size, (bytesRow s C).size + 1) j
    refine h.trans ?_
    have hj := (List.getElem?_eq_some_iff.1 hu).1
    simp at hj
    rw [bytesRow_at s C j hj]
    simp [hj] at hu
    rw [← hu]
  · have h := World.cell?_alloc_mark w.drew (bytesRow s C) e ((bytesRow s C).size, (bytesRow s C).size + 1) j
    have h' : ((w.drew.alloc (.cells (bytesRow s C) e ((bytesRow s C).size, (bytesRow s C).size + 1))).cell? ⟨w.heap.size, j, none⟩) = (bytesRow s C)[j]? := h
    rw [h', Array.getElem?_eq_getElem (by omega)]
    rfl
  · have h := World.frozen?_alloc_mark w.drew (bytesRow s C) e (bytesRow s C).size ((bytesRow s C).size + 1) j
    refine Eq.trans h ?_
    rw [hsz]
    simp
    omega

end Go.Proofs.YtkailfajemeeaaaDoor.Sha

import Derived.Test.YtpefdmkfmcjfnaaPkDfDig
import Derived.Test.YtpefdmkfmcjfnaaPkMsWorks

namespace Go.Proofs.Ytpefdmkfmcjfnaa.Df
open Go.RowKit Go.Sort Go.Proofs.Ytpefdmkfmcjfnaa.Mem Go.Proofs.Ytpefdmkfmcjfnaa.Route Go.Proofs.Ytpefdmkfmcjfnaa.Oct Go.Proofs.Ytpefdmkfmcjfnaa.Ms Go.Proofs.Ytpefdmkfmcjfnaa.Part Go.Proofs.Ytpefdmkfmcjfnaa.Mp
set_option linter.unusedVariables false
def kD (i : Nat) : Bs := UInt8.ofNat i :: List.replicate 31 0
def mk8 (i : Nat) : List Mk := (List.range i).map fun (c : Nat) => ((c : Int), kD c)
theorem mk8_succ (i : Nat) : mk8 (i + 1) = mk8 i ++ [((i : Int), kD i)] := by simp [mk8, List.range_succ]
def f0 : Ms := { z0 with kind := 3, rnd := 15 }
def full : Ms := { f0 with marks := mk8 8 }
def ofB (m : Ms) : Bool := decide (m.dig.length = 32) && m.marks.all (fun p => decide (p.2.length = 32)) && decide (m.bid < 18446744073709551616) && decide (m.nonce < 18446744073709551616) && decide (m.oc.pr < 18446744073709551616)
theorem ofB_ok {m : Ms} (h : ofB m = true) : m.ok ∧ m.wide := by
 simp only [ofB, Bool.and_eq_true, decide_eq_true_eq, List.all_eq_true] at h
 exact ⟨⟨h.1.1.1.1, h.1.1.1.2⟩, ⟨h.1.1.2, h.1.2, h.2⟩⟩
theorem full_facts : (ofB full && mayB full && decide ((encL full).length = 269)) = true := by decide +kernel
def k1 : Ms := { z0 with kind := 4, bid := 4294967296, nonce := 18446744073709551615, car := 7 }
def k2 : Ms := { z0 with kind := 2, rnd := 15 }
def k3 : Ms := { z0 with kind := 5, oc := ⟨4, 7, 16777216⟩ }
def k4 : Ms := { z0 with kind := 1, req := 63, rsv := 16777216, rq := { z0.rq with pl := 1048576, ld := 1000, sv := 1000 } }
def mays : List Ms := [k1, k2, k3, k4]
theorem mays_facts : mays.all (fun m => ofB m && mayB m && decide (m.marks = [])) = true := by decide +kernel
def c0 : Ms := z0
def c1 : Ms := { z0 with kind := 6 }
def c2 : Ms := { z0 with kind := -1 }
def c3 : Ms := { z0 with kind := 4, bid := 4294967297 }
def c4 : Ms := { z0 with kind := 4, car := 8 }
def c5 : Ms := { z0 with kind := 4, req := 1 }
def c6 : Ms := { z0 with kind := 2, rnd := 16 }
def c7 : Ms := { z0 with kind := 2, rnd := -1 }
def c8 : Ms := { z0 with kind := 2, car := -1 }
def c9 : Ms := { z0 with kind := 2, nonce := 1 }
def c10 : Ms := { z0 with kind := 3, car := 1 }
def c11 : Ms := { z0 with kind := 3, marks := [zM, zM] }
def c12 : Ms := { z0 with kind := 3, marks := [(8, zM.2)] }
def c13 : Ms := { z0 with kind := 3, marks := [(3, zM.2), (2, zM.2)] }
def c14 : Ms := { z0 with kind := 5 }
def c15 : Ms := { z0 with kind := 5, oc := ⟨3, 0, 0⟩ }
def c16 : Ms := { z0 with kind := 5, oc := ⟨2, -1, 0⟩ }
def c17 : Ms := { z0 with kind := 5, oc := ⟨2, 0, 16777217⟩ }
def c18 : Ms := { z0 with kind := 5, oc := ⟨5, 0, 0⟩ }
def c19 : Ms := { z0 with kind := 1 }
def c20 : Ms := { z0 with kind := 1, req := 64, rq := { z0.rq with ld := 1 } }
def c21 : Ms := { z0 with kind := 1, rsv := -1, rq := { z0.rq with ld := 1 } }
def bads : List Ms := [c0, c1, c2, c3, c4, c5, c6, c7, c8, c9, c10, c11, c12, c13, c14, c15, c16, c17, c18, c19, c20, c21]
theorem bads_facts : bads.all (fun m => ofB m && !mayB m) = true := by decide +kernel
def badV (g : Nat) : List Value := List.replicate 11 nilS ++ [.slice (some ⟨g, 0, none⟩) 2 2, .slice (some ⟨g + 1, 0, none⟩) 1 1, .slice (some ⟨g + 2, 0, none⟩) 2 2] ++ List.replicate 8 nilS
theorem flat_get {k : Nat} : ∀ {l : List (List Value)} (h : ∀ r ∈ l, r.length = k) {i : Nat} {r : List Value} (hi : l[i]? = some r) {j : Nat} {v : Value} (hj : r[j]? = some v), l.flatten[i * k + j]? = some v
 | [], _, i, r, hi, j, v, hj => by simp at hi
 | a :: l, h, 0, r, hi, j, v, hj => by
  obtain rfl : a = r := by simpa using hi
  have : j < a.length := by
   rcases Nat.lt_or_ge j a.length with h | h
   · exact h
   · rw [List.getElem?_eq_none h] at hj
     cases hj
  rw [List.flatten_cons, Nat.zero_mul, Nat.zero_add, List.getElem?_append_left this]
  exact hj
 | a :: l, h, i + 1, r, hi, j, v, hj => by
  have ha := h a (by simp)
  rw [List.flatten_cons, List.getElem?_append_right (by rw [ha, Nat.succ_mul]; omega), ha, show (i + 1) * k + j - k = i * k + j by rw [Nat.succ_mul]; omega]
  exact flat_get (fun r hr => h r (by simp [hr])) (by simpa using hi) hj
theorem info_msg : ∃ i0, Try.prog.info? 42 = some i0 ∧ i0.zero = some (.agg (msC z0 nilS).toArray) ∧ i0.size = 53 := by
 have h : (Try.prog.info? 42).map (fun i => (i.zero, i.size)) = some (some (.agg (msC z0 nilS).toArray), 53) := by kernel_rfl
 revert h
 cases Try.prog.info? 42 with
 | none => intro h; cases h
 | some i0 =>
  intro h
  simp only [Option.map_some, Option.some.injEq, Prod.mk.injEq] at h
  exact ⟨i0, rfl, h.1, h.2⟩
def mayC : List Value := (mays.map fun m => msC m nilS).flatten
def badC (g : Nat) : List Value := ((bads.zip (badV g)).map fun p => msC p.1 p.2).flatten
theorem fold_set (off : Nat) (post : List Value) : ∀ (r : List Value) (k : Nat) (pre mid : List Value), pre.length = off + k → mid.length = r.length → (r.zipIdx k).foldl (fun (cs : Array Value) (c, j) => cs.setIfInBounds (off + j) c) (pre ++ mid ++ post).toArray = (pre ++ r ++ post).toArray
 | [], k, pre, mid, h1, h2 => by
  obtain rfl : mid = [] := List.eq_nil_of_length_eq_zero h2
  rfl
 | c :: r, k, pre, mid, h1, h2 => by
  match mid, h2 with
  | m :: ms, h2 =>
   rw [List.zipIdx_cons, List.foldl_cons]
   have e : (pre ++ (m :: ms) ++ post).toArray.setIfInBounds (off + k) c = ((pre ++ [c]) ++ ms ++ post).toArray := by
    rw [List.setIfInBounds_toArray, ← h1]
    simp [List.set_append_right]
   have := fold_set off post r (k + 1) (pre ++ [c]) ms (by simp [h1]; omega) (by simpa using h2)
   simp only [e, this]
   simp
theorem fill_rows (k : Nat) : ∀ (rows : List (List Value)) (i : Nat) (pre rest : List Value), (∀ r ∈ rows, r.length = k) → pre.length = i * k → rest.length = rows.length * k →
 Instr.fill (fun i => some (i * k, k)) (pre ++ rest).toArray ((rows.zipIdx i).map fun x => (x.2, Value.agg x.1.toArray)) = some (pre ++ rows.flatten).toArray
 | [], i, pre, rest, h, h1, h2 => by
  obtain rfl : rest = [] := List.eq_nil_of_length_eq_zero (by simpa using h2)
  simp [Instr.fill]
 | r :: rows, i, pre, rest, h, h1, h2 => by
  have hr := h r (by simp)
  have h2' : rest.length = rows.length * k + k := by rw [h2, List.length_cons, Nat.succ_mul]
  rw [List.zipIdx_cons, List.map_cons]
  unfold Instr.fill
  have hf := fold_set (i * k) (rest.drop k) r 0 pre (rest.take k) (by simpa using h1) (by rw [List.length_take, hr]; omega)
  rw [show pre ++ rest.take k ++ rest.drop k = pre ++ rest by rw [List.append_assoc, List.take_append_drop]] at hf
  have ih := fill_rows k rows (i + 1) (pre ++ r) (rest.drop k) (fun r hr => h r (by simp [hr])) (by rw [List.length_append, h1, hr, Nat.succ_mul]) (by rw [List.length_drop]; omega)
  have hf' : List.foldl (fun (cs : Array Value) (x : Value × Nat) => cs.setIfInBounds (i * k + x.2) x.1) (pre ++ rest).toArray r.zipIdx = (pre ++ r ++ rest.drop k).toArray := hf
  simp only [List.append_assoc] at hf' ih
  simp only [Value.cells, List.size_toArray, hr]
  simp [h1, h2', hf', ih]
theorem fill_all (k N : Nat) (rows : List (List Value)) (hN : rows.length = N) (h : ∀ r ∈ rows, r.length = k) (f : Nat → Value) : Instr.fill (fun i => some (i * k, k)) ((Array.range (N * k)).map f) ((rows.zipIdx 0).map fun x => (x.2, Value.agg x.1.toArray)) = some rows.flatten.toArray := by
 have := fill_rows k rows 0 [] ((Array.range (N * k)).map f).toList h (by simp) (by simp [hN])
 rw [List.nil_append, Array.toArray_toList] at this
 simpa only [List.nil_append] using this
theorem bads_len (g : Nat) : ∀ r ∈ (bads.zip (badV g)).map fun p => msC p.1 p.2, r.length = 53 := by
 intro r hr
 obtain ⟨p, hp, rfl⟩ := List.mem_map.1 hr
 have := List.all_eq_true.1 bads_facts p.1 (List.of_mem_zip hp).1
 rw [Bool.and_eq_true] at this
 exact msC_len (ofB_ok this.1).1.dig
theorem mays_len : ∀ r ∈ mays.map fun m => msC m nilS, r.length = 53 := by
 intro r hr
 obtain ⟨p, hp, rfl⟩ := List.mem_map.1 hr
 have := List.all_eq_true.1 mays_facts p hp
 simp only [Bool.and_eq_true] at this
 exact msC_len (ofB_ok this.1.1).1.dig
theorem fill_may : Instr.fill (fun i => some (i * 53, 53)) ((Array.range (4 * 53)).map ((msC z0 nilS).toArray[· % (msC z0 nilS).toArray.size]!)) [(0, .agg (msC k1 nilS).toArray), (1, .agg (msC k2 nilS).toArray), (2, .agg (msC k3 nilS).toArray), (3, .agg (msC k4 nilS).toArray)] = some mayC.toArray := fill_all 53 4 (mays.map fun m => msC m nilS) rfl mays_len _
theorem fill_bad (g : Nat) : Instr.fill (fun i => some (i * 53, 53)) ((Array.range (22 * 53)).map ((msC z0 nilS).toArray[· % (msC z0 nilS).toArray.size]!)) [(0, .agg (msC c0 nilS).toArray), (1, .agg (msC c1 nilS).toArray), (2, .agg (msC c2 nilS).toArray), (3, .agg (msC c3 nilS).toArray), (4, .agg (msC c4 nilS).toArray), (5, .agg (msC c5 nilS).toArray), (6, .agg (msC c6 nilS).toArray), (7, .agg (msC c7 nilS).toArray), (8, .agg (msC c8 nilS).toArray), (9, .agg (msC c9 nilS).toArray), (10, .agg (msC c10 nilS).toArray), (11, .agg (msC c11 (.slice (some ⟨g, 0, none⟩) 2 2)).toArray), (12, .agg (msC c12 (.slice (some ⟨g + 1, 0, none⟩) 1 1)).toArray), (13, .agg (msC c13 (.slice (some ⟨g + 2, 0, none⟩) 2 2)).toArray), (14, .agg (msC c14 nilS).toArray), (15, .agg (msC c15 nilS).toArray), (16, .agg (msC c16 nilS).toArray), (17, .agg (msC c17 nilS).toArray), (18, .agg (msC c18 nilS).toArray), (19, .agg (msC c19 nilS).toArray), (20, .agg (msC c20 nilS).toArray), (21, .agg (msC c21 nilS).toArray)] = some (badC g).toArray := fill_all 53 22 ((bads.zip (badV g)).map fun p => msC p.1 p.2) rfl (bads_len g) _
section
variable {ops : Array Oper} {rest : List Oper} {o : Oper} {a : Act} {w : World} {Q : Exit → Act → World → Prop}
theorem wpList_mays (hg : o.guard = none) (x0 x1 x2 x3 : Operand) (ho : o.op = .buildSlice 66 4 #[(0, x0), (1, x1), (2, x2), (3, x3)]) (h0 : a.eval x0 = .agg (msC k1 nilS).toArray) (h1 : a.eval x1 = .agg (msC k2 nilS).toArray) (h2 : a.eval x2 = .agg (msC k3 nilS).toArray) (h3 : a.eval x3 = .agg (msC k4 nilS).toArray)
 (h : wpList Try.prog ops Q rest (a.put o.dst (.slice (some ⟨w.heap.size, 0, none⟩) 4 4)) (w.alloc (.cells mayC.toArray 42))) : wpList Try.prog ops Q (o :: rest) a w := by
 obtain ⟨i0, hi, hz, hs⟩ := info_msg
 refine wpList_buildSlice hg 66 42 4 _ ho _ i0 _ Try.underlying66 hi hz (by rw [hs]; decide) (by rw [hs]; decide) ?_ h
 have hp : ((#[(0, x0), (1, x1), (2, x2), (3, x3)] : Array (Nat × Operand)).map fun (i, x) => (i, a.eval x)).toList = [(0, .agg (msC k1 nilS).toArray), (1, .agg (msC k2 nilS).toArray), (2, .agg (msC k3 nilS).toArray), (3, .agg (msC k4 nilS).toArray)] := by simp [h0, h1, h2, h3]
 rw [hp, hs]
 exact fill_may
theorem wpList_bads (hg : o.guard = none) (g : Nat) (x0 x1 x2 x3 x4 x5 x6 x7 x8 x9 x10 x11 x12 x13 x14 x15 x16 x17 x18 x19 x20 x21 : Operand) (ho : o.op = .buildSlice 66 22 #[(0, x0), (1, x1), (2, x2), (3, x3), (4, x4), (5, x5), (6, x6), (7, x7), (8, x8), (9, x9), (10, x10), (11, x11), (12, x12), (13, x13), (14, x14), (15, x15), (16, x16), (17, x17), (18, x18), (19, x19), (20, x20), (21, x21)]) (h0 : a.eval x0 = .agg (msC c0 (nilS)).toArray) (h1 : a.eval x1 = .agg (msC c1 (nilS)).toArray) (h2 : a.eval x2 = .agg (msC c2 (nilS)).toArray) (h3 : a.eval x3 = .agg (msC c3 (nilS)).toArray) (h4 : a.eval x4 = .agg (msC c4 (nilS)).toArray) (h5 : a.eval x5 = .agg (msC c5 (nilS)).toArray) (h6 : a.eval x6 = .agg (msC c6 (nilS)).toArray) (h7 : a.eval x7 = .agg (msC c7 (nilS)).toArray) (h8 : a.eval x8 = .agg (msC c8 (nilS)).toArray) (h9 : a.eval x9 = .agg (msC c9 (nilS)).toArray) (h10 : a.eval x10 = .agg (msC c10 (nilS)).toArray) (h11 : a.eval x11 = .agg (msC c11 (.slice (some ⟨g, 0, none⟩) 2 2)).toArray) (h12 : a.eval x12 = .agg (msC c12 (.slice (some ⟨g + 1, 0, none⟩) 1 1)).toArray) (h13 : a.eval x13 = .agg (msC c13 (.slice (some ⟨g + 2, 0, none⟩) 2 2)).toArray) (h14 : a.eval x14 = .agg (msC c14 (nilS)).toArray) (h15 : a.eval x15 = .agg (msC c15 (nilS)).toArray) (h16 : a.eval x16 = .agg (msC c16 (nilS)).toArray) (h17 : a.eval x17 = .agg (msC c17 (nilS)).toArray) (h18 : a.eval x18 = .agg (msC c18 (nilS)).toArray) (h19 : a.eval x19 = .agg (msC c19 (nilS)).toArray) (h20 : a.eval x20 = .agg (msC c20 (nilS)).toArray) (h21 : a.eval x21 = .agg (msC c21 (nilS)).toArray)
 (h : wpList Try.prog ops Q rest (a.put o.dst (.slice (some ⟨w.heap.size, 0, none⟩) 22 22)) (w.alloc (.cells (badC g).toArray 42))) : wpList Try.prog ops Q (o :: rest) a w := by
 obtain ⟨i0, hi, hz, hs⟩ := info_msg
 refine wpList_buildSlice hg 66 42 22 _ ho _ i0 _ Try.underlying66 hi hz (by rw [hs]; decide) (by rw [hs]; decide) ?_ h
 have hp : ((#[(0, x0), (1, x1), (2, x2), (3, x3), (4, x4), (5, x5), (6, x6), (7, x7), (8, x8), (9, x9), (10, x10), (11, x11), (12, x12), (13, x13), (14, x14), (15, x15), (16, x16), (17, x17), (18, x18), (19, x19), (20, x20), (21, x21)] : Array (Nat × Operand)).map fun (i, x) => (i, a.eval x)).toList = [(0, .agg (msC c0 (nilS)).toArray), (1, .agg (msC c1 (nilS)).toArray), (2, .agg (msC c2 (nilS)).toArray), (3, .agg (msC c3 (nilS)).toArray), (4, .agg (msC c4 (nilS)).toArray), (5, .agg (msC c5 (nilS)).toArray), (6, .agg (msC c6 (nilS)).toArray), (7, .agg (msC c7 (nilS)).toArray), (8, .agg (msC c8 (nilS)).toArray), (9, .agg (msC c9 (nilS)).toArray), (10, .agg (msC c10 (nilS)).toArray), (11, .agg (msC c11 (.slice (some ⟨g, 0, none⟩) 2 2)).toArray), (12, .agg (msC c12 (.slice (some ⟨g + 1, 0, none⟩) 1 1)).toArray), (13, .agg (msC c13 (.slice (some ⟨g + 2, 0, none⟩) 2 2)).toArray), (14, .agg (msC c14 (nilS)).toArray), (15, .agg (msC c15 (nilS)).toArray), (16, .agg (msC c16 (nilS)).toArray), (17, .agg (msC c17 (nilS)).toArray), (18, .agg (msC c18 (nilS)).toArray), (19, .agg (msC c19 (nilS)).toArray), (20, .agg (msC c20 (nilS)).toArray), (21, .agg (msC c21 (nilS)).toArray)] := by simp [h0, h1, h2, h3, h4, h5, h6, h7, h8, h9, h10, h11, h12, h13, h14, h15, h16, h17, h18, h19, h20, h21]
 rw [hp, hs]
 exact fill_bad g
theorem wpList_mark2 (hg : o.guard = none) (x y : Operand) (ho : o.op = .buildSlice 38 2 #[(0, x), (1, y)]) (p q : Mk) (hp : p.2.length = 32) (hq : q.2.length = 32) (hx : a.eval x = .agg (markC p).toArray) (hy : a.eval y = .agg (markC q).toArray)
 (h : wpList Try.prog ops Q rest (a.put o.dst (.slice (some ⟨w.heap.size, 0, none⟩) 2 2)) (w.alloc (.cells (marksC [p, q]).toArray 65))) : wpList Try.prog ops Q (o :: rest) a w := by
 obtain ⟨i0, hi, h0, h1, h2⟩ := info_parts info_mark
 refine wpList_buildSlice hg 38 65 2 _ ho _ i0 _ Try.underlying38 hi h0 (by rw [h1]; decide) (by rw [h1]; decide) ?_ h
 have e : ((#[(0, x), (1, y)] : Array (Nat × Operand)).map fun (i, x) => (i, a.eval x)).toList = [(0, .agg (markC p).toArray), (1, .agg (markC q).toArray)] := by simp [hx, hy]
 rw [e, h1]
 exact fill_all 33 2 [markC p, markC q] rfl (by
  intro r hr
  simp only [List.mem_cons, List.mem_nil_iff, or_false] at hr
  rcases hr with rfl | rfl
  · exact markC_len hp
  · exact markC_len hq) _
end
theorem bad_mem (g : Nat) : ∀ p ∈ bads.zip (badV g), (p.2 = nilS ∧ p.1.marks = []) ∨ p = (c11, .slice (some ⟨g, 0, none⟩) 2 2) ∨ p = (c12, .slice (some ⟨g + 1, 0, none⟩) 1 1) ∨ p = (c13, .slice (some ⟨g + 2, 0, none⟩) 2 2) := by
 intro p hp
 simp only [bads, badV, List.replicate, List.cons_append, List.nil_append, List.zip_cons_cons, List.zip_nil_left, List.mem_cons, List.mem_nil_iff, or_false] at hp
 rcases hp with rfl | rfl | rfl | rfl | rfl | rfl | rfl | rfl | rfl | rfl | rfl | rfl | rfl | rfl | rfl | rfl | rfl | rfl | rfl | rfl | rfl | rfl
 all_goals first | exact .inl ⟨rfl, rfl⟩ | exact .inr (.inl rfl) | exact .inr (.inr (.inl rfl)) | exact .inr (.inr (.inr rfl))
theorem bad_marks {g : Nat} {W : World} (h0 : AtL W g 65 (marksC c11.marks)) (h1 : AtL W (g + 1) 65 (marksC c12.marks)) (h2 : AtL W (g + 2) 65 (marksC c13.marks)) {i : Nat} {p : Ms × Value} (hp : (bads.zip (badV g))[i]? = some p) :
 p.1.ok ∧ p.1.wide ∧ mayB p.1 = false ∧ ∃ x N c, p.2 = .slice x N c ∧ MarksAt W.heap.size W (.slice x N c) p.1.marks := by
 have hm := List.mem_of_getElem? hp
 have hb := List.all_eq_true.1 bads_facts p.1 (List.of_mem_zip hm).1
 rw [Bool.and_eq_true] at hb
 refine ⟨(ofB_ok hb.1).1, (ofB_ok hb.1).2, by simpa using hb.2, ?_⟩
 have h4 := (ofB_ok hb.1).1.marks
 rcases bad_mem g p hm with ⟨e1, e2⟩ | rfl | rfl | rfl
 · exact ⟨none, 0, 0, e1, by rw [e2]; exact RowB.nil _ _ _⟩
 · exact ⟨_, _, _, rfl, marks_at h0 rfl (by decide) h4⟩
 · exact ⟨_, _, _, rfl, marks_at h1 rfl (by decide) h4⟩
 · exact ⟨_, _, _, rfl, marks_at h2 rfl (by decide) h4⟩
theorem bad_cells {g gb : Nat} {W : World} (h : AtL W gb 42 (badC g)) {i : Nat} {p : Ms × Value} (hp : (bads.zip (badV g))[i]? = some p) {j : Nat} {v : Value} (hv : (msC p.1 p.2)[j]? = some v) : W.cell? ⟨gb, i * 53 + j, none⟩ = some v :=
 h.get (flat_get (bads_len g) (by rw [List.getElem?_map, hp]; rfl) hv)
theorem may_cells {gm : Nat} {W : World} (h : AtL W gm 42 mayC) {i : Nat} {m : Ms} (hm : mays[i]? = some m) {j : Nat} {v : Value} (hv : (msC m nilS)[j]? = some v) : W.cell? ⟨gm, i * 53 + j, none⟩ = some v :=
 h.get (flat_get mays_len (by rw [List.getElem?_map, hm]; rfl) hv)
theorem may_facts' {i : Nat} {m : Ms} (hm : mays[i]? = some m) : m.ok ∧ m.wide ∧ mayB m = true ∧ m.marks = [] := by
 have := List.all_eq_true.1 mays_facts m (List.mem_of_getElem? hm)
 simp only [Bool.and_eq_true, decide_eq_true_eq] at this
 exact ⟨(ofB_ok this.1.1).1, (ofB_ok this.1.1).2, this.1.2, this.2⟩
theorem built_dig (x : Int) : Try.prog.built 37 [(0, .int .u8 x)] = some (Value.int .u8 x :: List.replicate 31 (Value.int .u8 0)).toArray := by kernel_rfl
theorem kD_cells {i : Nat} (h : i < 256) : Value.int .u8 (i : Int) :: List.replicate 31 (Value.int .u8 0) = (kD i).map u8V := by
 rw [kD, List.map_cons, u8V, UInt8.toNat_ofNat', Nat.mod_eq_of_lt (by omega : i < 2 ^ 8)]
 rfl
end Go.Proofs.Ytpefdmkfmcjfnaa.Df

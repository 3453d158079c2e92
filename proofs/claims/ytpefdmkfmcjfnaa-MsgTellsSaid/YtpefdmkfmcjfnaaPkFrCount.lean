import Derived.Test.YtpefdmkfmcjfnaaPkFrSplit
import Derived.Test.YtpefdmkfmcjfnaaPkMsRead
import Derived.Test.YtpefdmkfmcjfnaaPkMsBack

namespace Go.Proofs.Ytpefdmkfmcjfnaa.Fr
open Go.RowKit Go.Sort Go.Shelf Go.Proofs.Ytpefdmkfmcjfnaa.Mem Go.Proofs.Ytpefdmkfmcjfnaa.Route Go.Proofs.Ytpefdmkfmcjfnaa.Oct Go.Proofs.Ytpefdmkfmcjfnaa.Seq
set_option linter.unusedVariables false
attribute [local go_sem] Oper.semAt_some
theorem Parse_any (s : Bs) (hs : s.length ≤ 9223372036854775807) (w : World) :
 Calls Try.prog 44 #[.string (str s)] w fun e w' => e = .returned (.tuple #[.int .i64 (paK s), .string (str (paB s)), .int .i64 (paE s)]) ∧ Below w.heap.size w w' := by
 have h := Split_any s hs w
 cases hf : front s with
 | none =>
  simp only [spK, spB, spR, spE, hf] at h
  simp only [paK, paB, paE, hf]
  clear hf
  go_enter Try.func44, Try.ntmps44
  go_wp2_with fail
  refine h.mono ?_
  rintro e w1 ⟨rfl, hb⟩
  go_wp2
  go_ret3
  exact ⟨rfl, hb⟩
 | some f =>
  obtain ⟨k, b, r⟩ := f
  simp only [spK, spB, spR, spE, hf] at h
  simp only [paK, paB, paE, hf]
  clear hf
  by_cases hr : r = []
  · subst hr
    simp only [if_true]
    go_enter Try.func44, Try.ntmps44
    go_wp2_with fail
    refine h.mono ?_
    clear h
    rintro e w1 ⟨rfl, hb⟩
    go_wp2
    go_ret3
    exact ⟨rfl, hb⟩
  · simp only [if_neg hr]
    have hn := str_full hr
    generalize str r = R at *
    go_enter Try.func44, Try.ntmps44
    go_wp2_with fail
    refine h.mono ?_
    clear h
    rintro e w1 ⟨rfl, hb⟩
    go_wp2
    go_ret3
    exact ⟨rfl, hb⟩
def lastR (s : Bs) (pre : List Fd) : Bs := match pre.getLast? with | some f => f.rest | none => s
structure CnI (w : World) (s : Bs) (pre : List Fd) (W : World) : Prop where
 n : At W w.heap.size 3 #[.int .i64 (pre.length : Int)]
 rest : At W (w.heap.size + 1) 9 #[.string (str (lastR s pre))]
 text : At W (w.heap.size + 2) 9 #[.string (str s)]
 below : Below w.heap.size w W
theorem CnI.old {w : World} {s : Bs} {n : Nat} (hn : w.heap.size + 3 ≤ n) : Seq.Old n (CnI w s) := by
 rintro pre A A' row ⟨h1, h2, h3, h4⟩ hg hr
 exact ⟨oldAt h1 hg hr (by omega), oldAt h2 hg hr (by omega), oldAt h3 hg hr (by omega), h4.grown hg h4.size (fun k e => by have := hr k e; omega)⟩
structure Res1 (n : Nat) (W W' : World) : Prop where
 os : W'.os = W.os
 tape : W'.tape = W.tape
 output : W'.output = W.output
 size : W.heap.size ≤ W'.heap.size
 block : ∀ k, k < W.heap.size → k ≠ n → W'.heap[k]? = W.heap[k]?
theorem Res1.refl (n : Nat) (W : World) : Res1 n W W := ⟨rfl, rfl, rfl, Nat.le_refl _, fun _ _ _ => rfl⟩
theorem Res1.trans {n : Nat} {A B C : World} (h : Res1 n A B) (k : Res1 n B C) : Res1 n A C :=
 ⟨k.os.trans h.os, k.tape.trans h.tape, k.output.trans h.output, Nat.le_trans h.size k.size, fun j hj h0 => (k.block j (Nat.lt_of_lt_of_le hj h.size) h0).trans (h.block j hj h0)⟩
theorem Res1.set (n : Nat) (W : World) (v : Value) : Res1 n W (W.setCell ⟨n, 0, none⟩ v) := ⟨rfl, rfl, rfl, by simp, fun k _ h0 => Below.heap_setCell W _ v k h0⟩
theorem Res1.at {n g : Nat} {W W' : World} {t : TypeId} {cs : Array Value} (h : Res1 n W W') (hA : At W g t cs) (h0 : g ≠ n) : At W' g t cs := (h.block g hA.inside h0).trans hA
def Z1 (a s n : Nat) (d e : Value) (done : Nat → Bool) (ys : Nat → Value) (w : World) : Prop :=
 ∃ v, At w n 3 #[v] ∧ (done s = true → done a = true ∧ v = e) ∧ (done s = false → v = d)
theorem Z1.light {a s n k : Nat} {d e : Value} {done : Nat → Bool} {ys : Nat → Value} {w : World} {v : Value} (h : Z1 a s n d e done ys w) (hs : k ≠ s) : Z1 a s n d e (Sched.mark done k) (Sched.upd ys k v) w := by
 obtain ⟨u, h1, h2, h3⟩ := h
 refine ⟨u, h1, fun hd => ?_, fun hd => h3 (by simpa [Sched.mark, Ne.symm hs] using hd)⟩
 obtain ⟨h4, h5⟩ := h2 (by simpa [Sched.mark, Ne.symm hs] using hd)
 exact ⟨by simp [Sched.mark, h4], h5⟩
theorem Z1.read {a s n : Nat} {d e : Value} {done : Nat → Bool} {ys : Nat → Value} {w : World} (h : Z1 a s n d e done ys w) (hn : done a = false) : At w n 3 #[d] := by
 obtain ⟨u, h1, h2, h3⟩ := h
 cases hd : done s
 · rw [← h3 hd]
   exact h1
 · rw [(h2 hd).1] at hn
   cases hn
theorem Z1.put {a s n : Nat} {d e : Value} {done : Nat → Bool} {ys : Nat → Value} {w : World} {v : Value} (h : Z1 a s n d e done ys w) (ha : done a = true) : Z1 a s n d e (Sched.mark done s) (Sched.upd ys s v) (w.setCell ⟨n, 0, none⟩ e) := by
 obtain ⟨u, h1, h2, h3⟩ := h
 refine ⟨e, h1.put 0 e, fun _ => ⟨?_, rfl⟩, fun hd => ?_⟩
 · simp [Sched.mark, ha]
 · simp [Sched.mark] at hd
end Go.Proofs.Ytpefdmkfmcjfnaa.Fr
namespace Go.Proofs.Ytpefdmkfmcjfnaa.Mp
open Go.RowKit Go.Sort Go.Proofs.Ytpefdmkfmcjfnaa.Mem Go.Proofs.Ytpefdmkfmcjfnaa.Route Go.Proofs.Ytpefdmkfmcjfnaa.Oct Go.Proofs.Ytpefdmkfmcjfnaa.Ms Go.Proofs.Ytpefdmkfmcjfnaa.Part
set_option linter.unusedVariables false
theorem wpList_built1 {P : Program} {ops : Array Oper} {rest : List Oper} {o : Oper} {a : Act} {w : World} {Q : Exit → Act → World → Prop} (hg : o.guard = none) (t : TypeId) (i : Nat) (x : Operand) (ho : o.op = .build t #[(i, x)]) (v : Value) (hx : a.eval x = v) (cells : Array Value)
 (hb : P.built t [(i, v)] = some cells) (h : wpList P ops Q rest (a.put o.dst (.agg cells)) w) : wpList P ops Q (o :: rest) a w := by
 subst hx
 have hb' : P.built t ((#[(i, x)] : Array (Nat × Operand)).map fun (i, x) => (i, a.eval x)).toList = some cells := by simpa using hb
 exact wpList_build hg t _ ho (by rw [hb']; rfl) (by rw [hb']; exact h)
theorem wpList_built0 {P : Program} {ops : Array Oper} {rest : List Oper} {o : Oper} {a : Act} {w : World} {Q : Exit → Act → World → Prop} (hg : o.guard = none) (t : TypeId) (ho : o.op = .build t #[]) (cells : Array Value)
 (hb : P.built t [] = some cells) (h : wpList P ops Q rest (a.put o.dst (.agg cells)) w) : wpList P ops Q (o :: rest) a w := by
 have hb' : P.built t ((#[] : Array (Nat × Operand)).map fun (i, x) => (i, a.eval x)).toList = some cells := by simpa using hb
 exact wpList_build hg t _ ho (by rw [hb']; rfl) (by rw [hb']; exact h)
theorem ret_array_tmp {P : Program} {w : World} {g : Nat} {t : TypeId} {cs : List Value} {fn : Func} {a : Act} {p k : Tmp} {ty : TypeId} {u : Value} (h : fn.results = #[.cell p ty, .tmp k]) (hp : a.tmps.getD p undef = .pointer (some ⟨g, 0, none⟩)) (hk : a.tmps.getD k undef = u) (hA : AtL w g t cs) (d : TypeDesc)
 (hu : P.underlying ty = some d) (hd : (match d with | .struct _ | .array _ _ => true | _ => false) = true) (hi : (P.info? ty).map (·.size) = some cs.length) :
 (results fn a.tmps).run P w = .ok (.tuple #[.agg cs.toArray, u]) w := by
 rw [results_cell_tmp h, hp, hk]
 have hl := run_loadVar_row (P := P) w g t ty cs.toArray (0, 0) d hA hu hd (by simpa using hi)
 simp [asAddr, Result.andThen, hl]
theorem built_z : Try.prog.built 42 [] = some (msC z0 nilS).toArray := by kernel_rfl
theorem built_k (k : Int) : Try.prog.built 42 [(0, .int .i64 k)] = some (msC (zK k) nilS).toArray := by kernel_rfl
theorem put_msg {a b : Ms} {u v : Value} (ha : a.dig.length = 32) (hb : b.dig.length = 32) : putL (msC a u) 0 (msC b v) = msC b v := put_all (by rw [msC_len ha, msC_len hb])
theorem size_msg {m : Ms} {v : Value} (h : m.dig.length = 32) : (Try.prog.info? 42).map (·.size) = some (msC m v).length := by rw [msC_len h]; kernel_rfl
theorem less_msg {a b : Ms} {u v : Value} (ha : a.dig.length = 32) (hb : b.dig.length = 32) : 0 + (msC b v).length ≤ (msC a u).length := by rw [msC_len ha, msC_len hb]; decide
theorem marks_at {w : World} {q C : Nat} {L : List Mk} (h : AtL w q 65 (marksC L)) (hC : L.length = C) (hC1 : C ≤ 1000) (h32 : ∀ p ∈ L, p.2.length = 32) : MarksAt w.heap.size w (.slice (some ⟨q, 0, none⟩) C C) L := by
 have := RowB.of_at (B := w.heap.size) (m := 33) (cap := C) (rows := L.map markC) (cs := (marksC L).toArray) h h.inside (fun r hr => by obtain ⟨p, hp, rfl⟩ := List.mem_map.1 hr; exact markC_len (h32 p hp)) (fun i u hu => by simpa [marksC] using hu) (by rw [List.length_map]; omega) (by unfold maxLen; omega)
 rwa [List.length_map, hC] at this
def NewMarks (B : Nat) (w : World) (v : Value) (L : List Mk) : Prop :=
 (v = .slice none 0 0 ∧ L = []) ∨ ∃ q C, v = .slice (some ⟨q, 0, none⟩) C C ∧ L.length = C ∧ C ≤ 1000 ∧ B ≤ q ∧ AtL w q 65 (marksC L) ∧ ∀ p ∈ L, p.2.length = 32
theorem NewMarks.none (B : Nat) (w : World) : NewMarks B w (.slice none 0 0) [] := .inl ⟨rfl, rfl⟩
theorem NewMarks.marks {B : Nat} {w : World} {v : Value} {L : List Mk} (h : NewMarks B w v L) : MarksAt w.heap.size w v L := by
 rcases h with ⟨rfl, rfl⟩ | ⟨q, C, rfl, h1, h2, -, h3, h4⟩
 · exact RowB.nil _ _ _
 · exact marks_at h3 h1 h2 h4
theorem NewMarks.keep {B : Nat} {w v : World} {u : Value} {L : List Mk} (h : NewMarks B w u L) (hb : Below w.heap.size w v) : NewMarks B v u L := by
 rcases h with h | ⟨q, C, e, h1, h2, h5, h3, h4⟩
 · exact .inl h
 · exact .inr ⟨q, C, e, h1, h2, h5, h3.on hb, h4⟩
theorem NewMarks.row {B : Nat} {w : World} {u : Value} {L : List Mk} (h : NewMarks B w u L) {n : Nat} (hn : n < B) (cs : Array Value) : NewMarks B (w.setRow n cs) u L := by
 rcases h with h | ⟨q, C, e, h1, h2, h5, h3, h4⟩
 · exact .inl h
 · exact .inr ⟨q, C, e, h1, h2, h5, h3.rowFar (by omega) cs, h4⟩
theorem NewMarks.less {A B : Nat} {w : World} {u : Value} {L : List Mk} (h : NewMarks B w u L) (hA : A ≤ B) : NewMarks A w u L := by
 rcases h with h | ⟨q, C, e, h1, h2, h5, h3, h4⟩
 · exact .inl h
 · exact .inr ⟨q, C, e, h1, h2, Nat.le_trans hA h5, h3, h4⟩
theorem walk_rd (k : Int) (st : St) (n r : Nat) (w : World) (hl : ∀ l, st = some l → l.length ≤ 9223372036854775000) (hA : AtL w n 42 (msC (zK k) nilS)) (hR : RdAt w r st) (hnr : n ≠ r) :
 Calls Try.prog 28 #[.iface 106 (.agg #[.pointer (some ⟨r, 0, none⟩)]), .pointer (some ⟨n, 0, none⟩)] w fun e w' => e = .returned (.tuple #[]) ∧ RdAt w' r (readA k st).2 ∧ (∃ x N c, AtL w' n 42 (msC (readA k st).1 (.slice x N c)) ∧ NewMarks w.heap.size w' (.slice x N c) (readA k st).1.marks) ∧ Two r n w w' := by
 have hAt : ∀ b : Nat, (Rd r).At b st w := fun b => ⟨hR, hl⟩
 have hr : Is (1, Kd.i, 1) (msC (zK k) nilS) := is_i rfl
 have zok : (zK k).ok := ⟨rfl, fun p hp => by cases hp⟩
 have zw : (zK k).wide := ⟨lt64, lt64, lt64⟩
 by_cases h3 : k = 3
 · subst h3
   have h1 := rd_i r 1 1 (by omega) (msC (zK 3) nilS) (msC { z0 with kind := 3, rnd := ((numS st 1).1 : Int) } nilS) st rfl
   have hb := numS_byte (numS st 1).2
   have hstep : ((Rd r).step ((Rd r).one (1, Kd.i, 1) (msC (zK 3) nilS, st)).2 (toU ((0 : Nat) : Int)) 1) = numS (numS st 1).2 1 := by rw [h1]; rfl
   refine (walk_marks (numS (numS st 1).2 1).1 (Rd r) (Rd_fits r) n 0 42 (msC (zK 3) nilS, st) 3 w (hAt _) hA rfl hnr hr rfl 0 none 0 0 [] (ms_marks (m := zK 3) rfl) (by rw [hstep]) (by omega) (fun p hp => by cases hp) (.inl ⟨rfl, rfl⟩) (RowB.nil _ _ _) (Nat.zero_le _) (Nat.zero_le _) (Nat.zero_le _)).mono ?_
   rintro e w' ⟨rfl, u, M, h2, h3', h4, h5⟩
   obtain ⟨a1, a2, a3⟩ := h2
   rw [hstep] at a2 a3
   have hst : startM [] (numS (numS st 1).2 1).1 = List.replicate (numS (numS st 1).2 1).1 zM := by simp [startM]
   rw [hst] at a2 a3
   have hq := rd_marks r (numS (numS st 1).2 1).1 (numS (numS st 1).2 1).2 _ (Nat.le_refl _)
   rw [Nat.sub_self, List.replicate_zero, List.append_nil] at hq
   have a4 := a3.1
   rw [hq] at a4
   have hRA : (readA 3 st) = ({ ({ z0 with kind := 3, rnd := ((numS st 1).1 : Int) } : Ms) with marks := (allS (numS (numS st 1).2 1).1 (numS (numS st 1).2 1).2).1 }, (allS (numS (numS st 1).2 1).1 (numS (numS st 1).2 1).2).2) := by unfold readA; rw [if_pos rfl]
   have h6 : AtL w' n 42 ((msC { z0 with kind := 3, rnd := ((numS st 1).1 : Int) } nilS).set 47 u) := by
    rw [h1] at h4
    exact h4
   rw [set_marks _ _ _ rfl] at h6
   rw [hRA]
   refine ⟨rfl, a4, ?_, h5⟩
   by_cases hC : (numS (numS st 1).2 1).1 = 0
   · have hu := a1 hC
     subst hu
     refine ⟨none, 0, 0, h6, ?_⟩
     rw [hC]
     exact NewMarks.none _ _
   · obtain ⟨q, hu, hMq, hcs⟩ := a2 (by omega)
     subst hu
     rw [hq] at hcs
     exact ⟨_, _, _, h6, .inr ⟨q, _, rfl, allS_len _ _, by omega, Nat.le_trans h3' hMq, hcs, allS_ok _ _⟩⟩
 have hmk : (readA k st).1.marks = [] := by
  unfold readA
  rw [if_neg h3]
  unfold readS
  simp only [if_neg h3]
  split
  · rfl
  split
  · rfl
  split
  · rfl
  split
  · rfl
  · rfl
 by_cases h5 : k = 5
 · subst h5
   refine (walk_out (Rd r) (Rd_fits r) n 0 42 (msC (zK 5) nilS, st) 5 w (hAt _) hA rfl hnr hr 0 rfl (is_i (ms_st (m := zK 5) rfl)) (ms_wn (m := zK 5) rfl) (is_u (ms_pr (m := zK 5) rfl) lt64)).mono ?_
   rintro e w' ⟨rfl, hD⟩
   have h1 := hD.st
   have h2 := hD.cs
   rw [rd_out] at h1 h2
   exact ⟨rfl, h1.1, ⟨none, 0, 0, h2, by rw [hmk]; exact NewMarks.none _ _⟩, hD.two⟩
 · refine (walk_flat (Rd r) (Rd_fits r) n 0 42 (msC (zK k) nilS, st) k w (hAt _) hA rfl hnr hr h3 h5 (typed_ms k zok zw)).mono ?_
   rintro e w' ⟨rfl, hD⟩
   have h1 := hD.st
   have h2 := hD.cs
   rw [rd_flat r k st h3 h5] at h1 h2
   exact ⟨rfl, h1.1, ⟨none, 0, 0, h2, by rw [hmk]; exact NewMarks.none _ _⟩, hD.two⟩
def rdM (s : Bs) : Ms × Int :=
 match Fr.front s with
 | none => (z0, 14)
 | some f => if f.rest ≠ [] ∨ (f.k : Int) < 1 ∨ 5 < (f.k : Int) then (z0, 15) else ((readA f.k (some f.body)).1, endS (readA f.k (some f.body)).2)
theorem rdM_ok (s : Bs) : (rdM s).1.ok ∧ (rdM s).1.wide := by
 unfold rdM
 split
 · exact ⟨⟨rfl, fun p hp => by cases hp⟩, ⟨lt64, lt64, lt64⟩⟩
 · split
   · exact ⟨⟨rfl, fun p hp => by cases hp⟩, ⟨lt64, lt64, lt64⟩⟩
   · exact readA_ok _ _
theorem dec_is (s : Bs) : decS s = if (rdM s).2 ≠ 0 then (z0, (rdM s).2) else if mayB (rdM s).1 = true then ((rdM s).1, 0) else (z0, 15) := by
 unfold decS rdM
 cases Fr.front s with
 | none => rfl
 | some f =>
  simp only
  by_cases h : f.rest ≠ [] ∨ (f.k : Int) < 1 ∨ 5 < (f.k : Int)
  · rw [if_pos h, if_pos h]; rfl
  · rw [if_neg h, if_neg h]
    simp only [readA_st]
    unfold bodyM
    cases hst : (readS f.k (some f.body)).2 with
    | none => rfl
    | some t =>
     rw [readA_some hst]
     cases t with
     | nil => simp [endS]
     | cons b t => simp [endS]
end Go.Proofs.Ytpefdmkfmcjfnaa.Mp

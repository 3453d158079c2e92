import Derived.Test.YtpefdmkfmcjfnaaPkMsTurn
import Derived.Test.YtpefdmkfmcjfnaaPkMsWorks

namespace Go.Proofs.Ytpefdmkfmcjfnaa.Df
open Go.RowKit Go.Sort Go.Proofs.Ytpefdmkfmcjfnaa.Mem Go.Proofs.Ytpefdmkfmcjfnaa.Route Go.Proofs.Ytpefdmkfmcjfnaa.Oct Go.Proofs.Ytpefdmkfmcjfnaa.Ms Go.Proofs.Ytpefdmkfmcjfnaa.Part Go.Proofs.Ytpefdmkfmcjfnaa.Mp
set_option linter.unusedVariables false
theorem marks_flat {B : Nat} {W : World} {ad : Addr} {N c : Nat} {K : List Mk} (h : MarksAt B W (.slice (some ad) N c) K) (h32 : ∀ p ∈ K, p.2.length = 32) : ∀ j u, (marksC K)[j]? = some u → W.cell? (ad.add j) = some u := by
 intro j u hu
 have hj : j < K.length * 33 := by
  rcases Nat.lt_or_ge j (K.length * 33) with h | h
  · exact h
  · rw [List.getElem?_eq_none (by rw [marksC_len h32]; exact h)] at hu
    cases hu
 obtain ⟨p, hp⟩ : ∃ p, K[j / 33]? = some p := ⟨_, List.getElem?_eq_getElem (by omega)⟩
 have hpl := markC_len (h32 p (List.mem_of_getElem? hp))
 obtain ⟨u', hu'⟩ : ∃ u', (markC p)[j % 33]? = some u' := ⟨_, List.getElem?_eq_getElem (by rw [hpl]; omega)⟩
 have h1 := marksC_get h32 hp hu'
 rw [show j / 33 * 33 + j % 33 = j by omega, hu] at h1
 cases h1
 obtain ⟨g, o, e, -, hc⟩ := mark_at h hp
 cases e
 have := hc _ _ hu'
 rw [show o + j / 33 * 33 + j % 33 = o + j by omega] at this
 have hadd : (⟨g, o, none⟩ : Addr).add j = ⟨g, o + j, none⟩ := by unfold Addr.add; split <;> simp_all
 rw [hadd]
 exact this
theorem OwnM.empty {W : World} {B : Nat} (hb : B ≤ W.heap.size) : OwnM B (W.alloc (.cells #[] 65)) (.slice (some ⟨W.heap.size, 0, none⟩) 0 0) [] :=
 ⟨⟨by simp [marksC], .inr ⟨W.heap.size, 0, #[], rfl, hb, heap_alloc_new W _, Nat.le_refl _, Nat.zero_le _, by simp, by simp [marksC]⟩⟩, fun p hp => by cases hp⟩
theorem wpList_append_marks {ops : Array Oper} {rest : List Oper} {o : Oper} {a : Act} {w : World} {Q : Exit → Act → World → Prop} (hgd : o.guard = none) (s x : Operand)
 (ho : o.op = .call { callee := .builtin .append, args := #[s, x], argTypes := #[38, 38] })
 (B : Nat) (v : Value) (L : List Mk) (hs : a.eval s = v) (hown : OwnM B w v L) (hL : L.length ≤ 1000) (C : Nat) (K : List Mk) (hK : K.length ≤ 1000) (h32 : ∀ p ∈ K, p.2.length = 32) (y : Option Addr) (N c : Nat) (hx : a.eval x = .slice y N c) (hm : MarksAt C w (.slice y N c) K) (hB : B ≤ w.heap.size)
 (h : ∀ v' w', OwnM B w' v' (L ++ K) → Below B w w' → wpList Try.prog ops Q rest (a.put o.dst v') w') : wpList Try.prog ops Q (o :: rest) a w := by
 obtain ⟨i0, hi, h0, h1, h2⟩ := info_parts info_mark
 have hN : K.length = N := marks_len hm
 cases y with
 | none =>
  obtain ⟨x', cap', e, -, -, hn, -⟩ := id hm
  have e1 : x' = none := by
   simp only [Value.slice.injEq] at e
   exact e.1.symm
  obtain ⟨hk, hc0⟩ := hn e1
  simp only [Value.slice.injEq] at e
  obtain ⟨-, e2, e3⟩ := e
  have hK0 : K = [] := by simpa using hk
  subst hK0
  have : N = 0 := by simpa using hN.symm
  subst this
  have hc : c = 0 := by omega
  subst hc
  refine wpList_append_own_none hgd s x 38 ho B 65 i0 33 Try.underlying38 hi v L.length (marksC L) hs hown.1 hx ?_
  exact h v w (by rw [List.append_nil]; exact hown) (Below.refl _ _)
 | some ad =>
  subst hN
  refine wpList_append_own w hgd s x 38 ho B 65 i0 (.agg (markC zM).toArray) 33 40 Try.underlying38 hi h0 h1 h2 rfl (by decide) v L.length (marksC L) hs hown.1 ad K.length c (marksC K) hx (marksC_len h32) (marks_flat hm h32) marks_one (by unfold maxLen; omega) (by omega) hB ?_
  intro v' w' h3 h4 _
  refine h v' w' ⟨?_, fun p hp => ?_⟩ (hown.grown h4 hB)
  · rw [List.length_append, marksC_append]
    exact h3
  · rcases List.mem_append.1 hp with hp | hp
    · exact hown.2 p hp
    · exact h32 p hp
theorem wpList_built_one {P : Program} {ops : Array Oper} {rest : List Oper} {o : Oper} {a : Act} {w : World} {Q : Exit → Act → World → Prop} (hg : o.guard = none) (t : TypeId) (i : Nat) (x : Operand) (ho : o.op = .build t #[(i, x)]) (v : Value) (hx : a.eval x = v) (cells : Array Value)
 (hb : P.built t [(i, v)] = some cells) (h : wpList P ops Q rest (a.put o.dst (.agg cells)) w) : wpList P ops Q (o :: rest) a w := by
 subst hx
 have hb' : P.built t ((#[(i, x)] : Array (Nat × Operand)).map fun (i, x) => (i, a.eval x)).toList = some cells := by simpa using hb
 exact wpList_build hg t _ ho (by rw [hb']; rfl) (by rw [hb']; exact h)
theorem built_n (n : Int) : Try.prog.built 65 [(0, .int .i64 n)] = some (markC (n, zD)).toArray := by kernel_rfl
set_option maxRecDepth 100000 in
set_option maxHeartbeats 8000000 in
theorem turn10 (m : Ms) (x : Option Addr) (N cap : Nat) (hm : m.ok) (hml : m.marks.length ≤ 999) (a : Nat) (ha : a % 16 = 10) (n : Int) (hn : I64 n) (w : World) (hM : MarksAt w.heap.size w (.slice x N cap) m.marks) :
 Calls Try.prog 12 #[.agg (msC m (.slice x N cap)).toArray, .int .u8 (a : Int), .int .i64 n] w fun e w' => ∃ x' N' c', e = .returned (.agg (msC (turnM m 10 n) (.slice x' N' c')).toArray) ∧ MarksAt w'.heap.size w' (.slice x' N' c') (turnM m 10 n).marks ∧ Below w.heap.size w w' := by
 obtain ⟨g, hg⟩ : ∃ g, w.heap.size = g := ⟨_, rfl⟩
 have hA : AtL ((w.alloc (.cells (msC m (.slice x N cap)).toArray 42)).alloc (.cells (msC z0 nilS).toArray 42)) g 42 (msC m (.slice x N cap)) := by rw [← hg]; exact (AtL.new w _ _).alloc _
 have hR : AtL ((w.alloc (.cells (msC m (.slice x N cap)).toArray 42)).alloc (.cells (msC z0 nilS).toArray 42)) (g + 1) 42 (msC z0 nilS) := by
  have := AtL.new (w.alloc (.cells (msC m (.slice x N cap)).toArray 42)) 42 (msC z0 nilS)
  rwa [World.size_alloc, hg] at this
 have hB : Below g w ((w.alloc (.cells (msC m (.slice x N cap)).toArray 42)).alloc (.cells (msC z0 nilS).toArray 42)) := ((Below.refl _ _).alloc (Nat.le_of_eq hg.symm) _).alloc (by rw [World.size_alloc]; omega) _
 rw [show Below w.heap.size w = Below g w by rw [hg]]
 have hd := hm.dig
 have h32 := hm.marks
 have hk : (a : Int) % 16 = 10 := by omega
 rw [hg] at hM
 replace hg := Lib.hid hg
 replace hA := Lib.hid hA
 replace hB := Lib.hid hB
 replace hR := Lib.hid hR
 replace hM := Lib.hid hM
 go_enter Try.func12, Try.ntmps12
 go_upto_region 1 with fail
 try rw [z0_lit]
 try simp only [hg.out]
 generalize (w.alloc (.cells (msC m (.slice x N cap)).toArray 42)).alloc (.cells (msC z0 nilS).toArray 42) = w1 at hA hB hR ⊢
 obtain ⟨B, hBs⟩ : ∃ B, w1.heap.size = B := ⟨_, rfl⟩
 have hgB : g + 1 < B := by have := hR.out.inside; omega
 have hb2 : Below w1.heap.size w1 (w1.alloc (.cells #[] 65)) := (Below.refl _ _).alloc (Nat.le_refl _) _
 have hA2 := hA.out.on hb2
 have cc := hA2.get (ms_marks (v := .slice x N cap) hd)
 have hO2 : OwnM B (w1.alloc (.cells #[] 65)) (.slice (some ⟨B, 0, none⟩) 0 0) [] := by
  have := OwnM.empty (W := w1) (B := B) (Nat.le_of_eq hBs.symm)
  rwa [hBs] at this
 have hM2 := RowB.keep hM.out (hB.out.trans (hb2.mono (by omega))) (Nat.le_refl _)
 have hz2 : B ≤ (w1.alloc (.cells #[] 65)).heap.size := by rw [World.size_alloc]; omega
 have hR2 := Lib.hid (hR.out.on hb2)
 have hB2 := Lib.hid (hB.out.trans (hb2.mono (by omega)))
 replace hA2 := Lib.hid hA2
 replace hO2 := Lib.hid hO2
 replace hM2 := Lib.hid hM2
 replace hz2 := Lib.hid hz2
 replace hBs := Lib.hid hBs
 have hm1 : m.marks.length ≤ 1000 := by omega
 clear hA hB hR hM hb2
 go_wp2_with (at_builtin; (try rw [hBs.out]); refine wpList_append_marks rfl _ _ rfl B (.slice (some ⟨B, 0, none⟩) 0 0) [] rfl hO2.out (by decide) g m.marks hm1 h32 x N cap rfl hM2.out hz2.out ?_)
 intro v3 w3 hO3 hb3
 replace hO3 : OwnM B w3 v3 m.marks := hO3
 obtain ⟨x3, N3, c3, rfl⟩ := hO3.slice
 have hz3 := Nat.le_trans hz2.out hb3.size
 have hA3 := hA2.out.keep hb3 (by omega)
 have hR3 := hR2.out.keep hb3 (by omega)
 have hB3 := hB2.out.trans (hb3.mono (by omega))
 have hg4 := Lib.hid (AtL.new w3 65 (markC (n, zD)))
 have hb4 : Below w3.heap.size w3 (w3.alloc (.cells (markC (n, zD)).toArray 65)) := (Below.refl _ _).alloc (Nat.le_refl _) _
 have hO4 := Lib.hid (hO3.below hb4)
 have hA4 := Lib.hid (hA3.on hb4)
 have hR4 := Lib.hid (hR3.on hb4)
 have hB4 := Lib.hid (hB3.trans (hb4.mono (by omega)))
 have hz4 : Hid (B ≤ (w3.alloc (.cells (markC (n, zD)).toArray 65)).heap.size) := Lib.hid (Nat.le_trans hz3 hb4.size)
 clear hO2 hM2 hz2 hA2 hR2 hB2 hb3 hO3 hz3 hA3 hR3 hB3 hb4 cc
 go_wp2_with (first | (refine wpList_built_one rfl 65 0 _ rfl (.int .i64 n) rfl (markC (n, zD)).toArray (built_n n) ?_) | (refine wpList_mark rfl _ rfl n zD rfl rfl ?_) | (at_builtin; refine wpList_append_mark rfl _ _ rfl B (.slice x3 N3 c3) m.marks rfl hO4.out hm1 w3.heap.size n zD rfl rfl hg4.out hz4.out ?_))
 intro v5 w5 hO5 hb5
 obtain ⟨x5, N5, c5, rfl⟩ := hO5.slice
 have hz5 := Nat.le_trans hz4.out hb5.size
 have hA5 := hA4.out.keep hb5 (by omega)
 have hR5 := hR4.out.keep hb5 (by omega)
 have hB5 := hB4.out.trans (hb5.mono (by omega))
 have cc := hA5.get (ms_marks (v := .slice x N cap) hd)
 have ff := hA5.free 47
 have hA6 := hA5.put 47 (.slice x5 N5 c5)
 have hA7 := Lib.hid (atL_eq hA6 (show _ = msC (turnM m 10 n) (.slice x5 N5 c5) from set_marks _ _ _ hd))
 have hR7 := Lib.hid (hR5.far (b := g) (by omega) 47 (.slice x5 N5 c5))
 have hB7 := hB5.setCell (p := ⟨g, 47, none⟩) (Nat.le_refl _) (.slice x5 N5 c5)
 have hO7 := hO5.set (r := g) (by omega) 47 (.slice x5 N5 c5)
 have htd : (turnM m 10 n).dig.length = 32 := hd
 have hO := hR7.out.row (putL (msC z0 nilS) 0 (msC (turnM m 10 n) (.slice x5 N5 c5)))
 have hO3 := Lib.hid (atL_eq hO (put_msg z0d htd))
 have hB8 := below_row hB7 (g := g + 1) (Nat.le_succ g) (putL (msC z0 nilS) 0 (msC (turnM m 10 n) (.slice x5 N5 c5))).toArray
 have hM8 := Lib.hid (show MarksAt _ _ _ (turnM m 10 n).marks from (hO7.row (r := g + 1) hgB (putL (msC z0 nilS) 0 (msC (turnM m 10 n) (.slice x5 N5 c5))).toArray).marks)
 replace hB8 := Lib.hid hB8
 have hld := Lib.hid (fun j u (hu : (msC (turnM m 10 n) (.slice x5 N5 c5))[j]? = some u) => (show (w5.setCell ⟨g, 47, none⟩ (.slice x5 N5 c5)).cell? ⟨g, 0 + j, none⟩ = some u by rw [Nat.zero_add]; exact hA7.out.get hu))
 obtain ⟨m', hm'⟩ : ∃ m', turnM m 10 n = m' := ⟨_, rfl⟩
 simp only [hm'] at hld htd hO3 hB8 hM8
 replace hm' := Lib.hid hm'
 have hvo := hO4.out.one
 clear hA4 hR4 hB4 hO4 hz4 hg4 hO5 hb5 hA5 hR5 hB5 hA6 hA7 hB7 hO7 hO hz5
 go_wp2_with (first | (refine wpList_load_part rfl 42 _ rfl g 0 rfl (msC m' (.slice x5 N5 c5)) hld.out _ Try.underlying42 rfl (size_msg htd) ?_) | (refine wpList_store_part rfl 42 _ _ rfl (g + 1) 0 (msC m' (.slice x5 N5 c5)) rfl rfl 42 (msC z0 nilS) hR7.out (size_msg htd) (less_msg z0d htd) (ms_one rfl) ?_))
 refine bodyPost_ret (ret_array rfl rfl hO3.out _ Try.underlying42 rfl (size_msg htd)) rfl ?_
 exact ⟨x5, N5, c5, by rw [hm'.out], by rw [hm'.out]; exact hM8.out, hB8.out⟩
theorem Turned_any (m : Ms) (x : Option Addr) (N cap : Nat) (hm : m.ok) (hml : m.marks.length ≤ 999) (a : Nat) (n : Int) (hn : I64 n) (w : World) (hM : MarksAt w.heap.size w (.slice x N cap) m.marks) :
 Calls Try.prog 12 #[.agg (msC m (.slice x N cap)).toArray, .int .u8 (a : Int), .int .i64 n] w fun e w' => ∃ x' N' c', e = .returned (.agg (msC (turnM m (a % 16) n) (.slice x' N' c')).toArray) ∧ MarksAt w'.heap.size w' (.slice x' N' c') (turnM m (a % 16) n).marks ∧ Below w.heap.size w w' := by
 obtain ⟨k, hk⟩ : ∃ k, a % 16 = k := ⟨_, rfl⟩
 have hk16 : k < 16 := by omega
 rw [hk]
 have h16 : k = 0 ∨ k = 1 ∨ k = 2 ∨ k = 3 ∨ k = 4 ∨ k = 5 ∨ k = 6 ∨ k = 7 ∨ k = 8 ∨ k = 9 ∨ k = 10 ∨ k = 11 ∨ k = 12 ∨ k = 13 ∨ k = 14 ∨ k = 15 := by omega
 rcases h16 with rfl | rfl | rfl | rfl | rfl | rfl | rfl | rfl | rfl | rfl | rfl | rfl | rfl | rfl | rfl | rfl
 · exact turn0 m x N cap hm a hk n hn w hM
 · exact turn1 m x N cap hm a hk n hn w hM
 · exact turn2 m x N cap hm a hk n hn w hM
 · exact turn3 m x N cap hm a hk n hn w hM
 · exact turn4 m x N cap hm a hk n hn w hM
 · exact turn5 m x N cap hm a hk n hn w hM
 · exact turn6 m x N cap hm a hk n hn w hM
 · exact turn7 m x N cap hm a hk n hn w hM
 · exact turn8 m x N cap hm a hk n hn w hM
 · exact turn9 m x N cap hm a hk n hn w hM
 · exact turn10 m x N cap hm hml a hk n hn w hM
 · exact turn11 m x N cap hm a hk n hn w hM
 · exact turn12 m x N cap hm a hk n hn w hM
 · exact turn13 m x N cap hm a hk n hn w hM
 · exact turn14 m x N cap hm a hk n hn w hM
 · exact turn15 m x N cap hm a hk n hn w hM
end Go.Proofs.Ytpefdmkfmcjfnaa.Df

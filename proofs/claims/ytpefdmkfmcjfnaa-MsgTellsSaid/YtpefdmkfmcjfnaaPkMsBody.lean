import Derived.Test.YtpefdmkfmcjfnaaPkOctRef

namespace Go.Proofs.Ytpefdmkfmcjfnaa.Ms
open Go.RowKit Go.Sort Go.Proofs.Ytpefdmkfmcjfnaa.Mem Go.Proofs.Ytpefdmkfmcjfnaa.Route Go.Proofs.Ytpefdmkfmcjfnaa.Oct Go.Proofs.Ytpefdmkfmcjfnaa.Part Go.Proofs.Ytpefdmkfmcjfnaa.Dr
set_option linter.unusedVariables false
attribute [local go_sem] str_append
structure Fits (m : Ms) : Prop where
 rnd : Fit m.rnd
 bid : m.bid < 18446744073709551616
 nonce : m.nonce < 18446744073709551616
 pr : m.oc.pr < 18446744073709551616
 k1 : m.kind = 1 → Fit m.req ∧ Fit m.rsv ∧ Fit m.rq.fx ∧ Fit m.rq.fy ∧ Fit m.rq.tx ∧ Fit m.rq.ty ∧ Fit m.rq.pe ∧ Fit m.rq.pl ∧ Fit m.rq.de ∧ Fit m.rq.dl ∧ Fit m.rq.ld ∧ Fit m.rq.sv
 k24 : m.kind = 2 ∨ m.kind = 4 → Fit m.car
 k5 : m.kind = 5 → Fit m.oc.st ∧ Fit (m.oc.wn + 1)
 k3 : ¬ m.kind = 1 → ¬ m.kind = 2 → ¬ m.kind = 4 → ¬ m.kind = 5 → m.marks.length ≤ 8 ∧ ∀ q ∈ m.marks, Fit q.1
structure Lays (n : Int) (k : Nat) (L : Bs) : Prop where
 len : L.length = k
 eq : lay1 n k = L
 any : ∀ W, Calls Try.prog 24 #[.int .i64 n, .int .i64 (k : Int)] W fun e w' => e = .returned (.string (str L)) ∧ Below W.heap.size W w'
theorem lays {n : Int} {k : Nat} (h : Fit n) (hk : k ≤ 8) : ∃ L, Lays n k L := ⟨lay1 n k, by rw [lay1, laidL_length], rfl, fun W => num_any n k h hk W⟩
theorem call1 {n : Int} {L : Bs} (h : Lays n 1 L) (W : World) : Calls Try.prog 24 #[.int .i64 n, .int .i64 1] W fun e w' => e = .returned (.string (str L)) ∧ Below W.heap.size W w' := h.any W
theorem call2 {n : Int} {L : Bs} (h : Lays n 2 L) (W : World) : Calls Try.prog 24 #[.int .i64 n, .int .i64 2] W fun e w' => e = .returned (.string (str L)) ∧ Below W.heap.size W w' := h.any W
theorem call4 {n : Int} {L : Bs} (h : Lays n 4 L) (W : World) : Calls Try.prog 24 #[.int .i64 n, .int .i64 4] W fun e w' => e = .returned (.string (str L)) ∧ Below W.heap.size W w' := h.any W
theorem part_text (w : World) (g off n cap : Nat) (l : Bs) (hn : n = l.length)
 (hc : ∀ j b, l[j]? = some b → w.cell? ⟨g, off + j, none⟩ = some (u8V b)) : (convert 26 9 (.slice (some ⟨g, off, none⟩) n cap)).run Try.prog w = .ok (.string (str l)) w := by
 subst hn
 refine run_convert_bytes_back (P := Try.prog) w 26 9 5 ⟨g, off, none⟩ cap l Try.underlying26 Try.underlying5 Try.underlying9 fun j hj => ?_
 have hadd : (⟨g, off, none⟩ : Addr).add j = ⟨g, off + j, none⟩ := by unfold Addr.add; split <;> simp_all
 rw [hadd]
 exact hc j _ (List.getElem?_eq_getElem hj)
theorem marksL_len {l : List (Int × Bs)} (h : ∀ p ∈ l, p.2.length = 32) : (marksL l).length = 33 * l.length := by
 induction l with
 | nil => rfl
 | cons p t ih =>
  have h1 := h p (List.mem_cons_self ..)
  have h2 := ih (fun q hq => h q (List.mem_cons_of_mem _ hq))
  simp only [marksL, List.map_cons, List.flatten_cons, List.length_append, markL, lay1, laidL_length, h1, List.length_cons] at h2 ⊢
  omega
theorem marksL_snoc (l : List (Int × Bs)) (p : Int × Bs) : marksL (l ++ [p]) = marksL l ++ markL p := by simp [marksL]
set_option maxRecDepth 100000 in
set_option maxHeartbeats 16000000 in
theorem body_any (m : Ms) (x : Option Addr) (Nn cp : Nat) (hm : m.ok) (hf : Fits m) (w : World) (hM : MarksAt w.heap.size w (.slice x Nn cp) m.marks) :
 Calls Try.prog 15 #[.agg (msC m (.slice x Nn cp)).toArray] w fun e w' => e = .returned (.string (str (bodyL m))) ∧ Below w.heap.size w w' := by
 obtain ⟨n, hn⟩ : ∃ n, w.heap.size = n := ⟨_, rfl⟩
 have hA : AtL (w.alloc (.cells (msC m (.slice x Nn cp)).toArray 42)) w.heap.size 42 (msC m (.slice x Nn cp)) := AtL.new w _ _
 have hB0 : Below w.heap.size w (w.alloc (.cells (msC m (.slice x Nn cp)).toArray 42)) := (Below.refl _ _).alloc (Nat.le_refl _) _
 have hz0 : n < (w.alloc (.cells (msC m (.slice x Nn cp)).toArray 42)).heap.size := by simp; omega
 have hM1 := RowB.keep hM hB0 (Nat.le_refl _)
 have hNm := marks_max hM
 have hNl := Lib.hid (marks_len hM)
 obtain ⟨L0, hL0⟩ := lays (k := 1) hf.rnd (by omega)
 have l0 := hL0.len
 obtain ⟨R, hR⟩ : ∃ R, bodyL m = R := ⟨_, rfl⟩
 rw [hR]
 replace hR := Lib.hid (show R = L0 ++ partL m by rw [← hR, bodyL, hL0.eq])
 rw [hn] at hA hB0 hM1 hM ⊢
 go_enter Try.func15, Try.ntmps15
 go_upto_region 1 with fail
 generalize w.alloc (.cells (msC m (.slice x Nn cp)).toArray 42) = W1 at *
 replace hn := Lib.hid hn
 have a1 := hA.get ms_rnd
 replace hm := Lib.hid hm
 replace hf := Lib.hid hf
 replace hM := Lib.hid hM
 replace hM1 := Lib.hid hM1
 go_wp2_with fail
 refine (call1 hL0 W1).mono ?_
 rintro e W2 ⟨rfl, hb2⟩
 have hB2 := Lib.hid (hB0.trans (hb2.mono (Nat.le_of_lt hz0)))
 have hA2 := hA.on hb2
 have hM2 := Lib.hid (RowB.keep hM1.out (hb2.mono (Nat.le_of_lt hz0)) (Nat.le_refl _))
 have hz2 : n < W2.heap.size := Nat.lt_of_lt_of_le hz0 hb2.size
 clear hM1 hA hB0 hb2 hz0 a1 hM
 replace hL0 := Lib.hid hL0
 have a0 := hA2.get ms_kind
 by_cases e1 : m.kind = 1
 · have hf1 := hf.out.k1 e1
   obtain ⟨f1, f2, f3, f4, f5, f6, f7, f8, f9, f10, f11, f12⟩ := hf1
   obtain ⟨L1, hL1⟩ := lays (k := 1) f1 (by omega)
   have l1 := hL1.len
   obtain ⟨L2, hL2⟩ := lays (k := 4) f2 (by omega)
   have l2 := hL2.len
   obtain ⟨L3, hL3⟩ := lays (k := 2) f3 (by omega)
   have l3 := hL3.len
   obtain ⟨L4, hL4⟩ := lays (k := 2) f4 (by omega)
   have l4 := hL4.len
   obtain ⟨L5, hL5⟩ := lays (k := 2) f5 (by omega)
   have l5 := hL5.len
   obtain ⟨L6, hL6⟩ := lays (k := 2) f6 (by omega)
   have l6 := hL6.len
   obtain ⟨L7, hL7⟩ := lays (k := 4) f7 (by omega)
   have l7 := hL7.len
   obtain ⟨L8, hL8⟩ := lays (k := 4) f8 (by omega)
   have l8 := hL8.len
   obtain ⟨L9, hL9⟩ := lays (k := 4) f9 (by omega)
   have l9 := hL9.len
   obtain ⟨L10, hL10⟩ := lays (k := 4) f10 (by omega)
   have l10 := hL10.len
   obtain ⟨L11, hL11⟩ := lays (k := 2) f11 (by omega)
   have l11 := hL11.len
   obtain ⟨L12, hL12⟩ := lays (k := 2) f12 (by omega)
   have l12 := hL12.len
   have hs := Lib.hid (show R = L0 ++ (L1 ++ (L2 ++ (L3 ++ (L4 ++ (L5 ++ (L6 ++ (L7 ++ (L8 ++ (L9 ++ (L10 ++ (L11 ++ L12))))))))))) by rw [hR.out, partL, if_pos e1, rqL, hL1.eq, hL2.eq, hL3.eq, hL4.eq, hL5.eq, hL6.eq, hL7.eq, hL8.eq, hL9.eq, hL10.eq, hL11.eq, hL12.eq])
   have a3 := hA2.get ms_req
   have a4 := hA2.get ms_rsv
   have hA3 := Lib.hid hA2
   clear hA2
   go_upto_region 4 with fail
   refine wp_region_list ?_
   try dsimp only
   (refine BigFrame.wpList_want rfl ?_; intro K hK; replace hK := Lib.hid hK; go_wp2_with fail; refine hK.out _ _ ?_; clear hK K)
   refine wpList_load_part_w rfl 35 _ rfl n 5 rfl (rqC m.rq) (fun j v hv => hA3.out.get (ms_rq hv)) _ Try.underlying35 rfl (rq_size _) ?_
   go_simp
   simp only [rqC]
   go_upto_region 5 with fail
   obtain ⟨g, hg⟩ : ∃ g, W2.heap.size = g := ⟨_, rfl⟩
   have hQ : AtL (W2.alloc (.cells #[.int .i64 m.rq.fx, .int .i64 m.rq.fy, .int .i64 m.rq.tx, .int .i64 m.rq.ty, .int .i64 m.rq.pe, .int .i64 m.rq.pl, .int .i64 m.rq.de, .int .i64 m.rq.dl, .int .i64 m.rq.ld, .int .i64 m.rq.sv] 35)) W2.heap.size 35 (rqC m.rq) := AtL.new W2 _ (rqC m.rq)
   have hA4 := hA3.out.alloc (.cells #[.int .i64 m.rq.fx, .int .i64 m.rq.fy, .int .i64 m.rq.tx, .int .i64 m.rq.ty, .int .i64 m.rq.pe, .int .i64 m.rq.pl, .int .i64 m.rq.de, .int .i64 m.rq.dl, .int .i64 m.rq.ld, .int .i64 m.rq.sv] 35)
   have hB3 := Lib.hid (hB2.out.alloc (Nat.le_of_lt hz2) (.cells #[.int .i64 m.rq.fx, .int .i64 m.rq.fy, .int .i64 m.rq.tx, .int .i64 m.rq.ty, .int .i64 m.rq.pe, .int .i64 m.rq.pl, .int .i64 m.rq.de, .int .i64 m.rq.dl, .int .i64 m.rq.ld, .int .i64 m.rq.sv] 35))
   have hz3 : n < (W2.alloc (.cells #[.int .i64 m.rq.fx, .int .i64 m.rq.fy, .int .i64 m.rq.tx, .int .i64 m.rq.ty, .int .i64 m.rq.pe, .int .i64 m.rq.pl, .int .i64 m.rq.de, .int .i64 m.rq.dl, .int .i64 m.rq.ld, .int .i64 m.rq.sv] 35)).heap.size := by simp; omega
   simp only [hg] at hQ ⊢
   generalize (W2.alloc (.cells #[.int .i64 m.rq.fx, .int .i64 m.rq.fy, .int .i64 m.rq.tx, .int .i64 m.rq.ty, .int .i64 m.rq.pe, .int .i64 m.rq.pl, .int .i64 m.rq.de, .int .i64 m.rq.dl, .int .i64 m.rq.ld, .int .i64 m.rq.sv] 35)) = W3 at *
   replace hg := Lib.hid hg
   clear hA3 hz2
   have k1 := cell_regrown (hA4.get ms_req)
   have c1 := fun d os => Calls.regrown_of (call1 hL1 (grow (redrawn W3 d) os))
   have k2 := cell_regrown (hA4.get ms_rsv)
   have c2 := fun d os => Calls.regrown_of (call4 hL2 (grow (redrawn W3 d) os))
   have k3 : ∀ d os, (grow (redrawn W3 d) os).cell? ⟨g, 0, none⟩ = some (.int .i64 m.rq.fx) := cell_regrown (hQ.get (i := 0) rfl)
   have c3 := fun d os => Calls.regrown_of (call2 hL3 (grow (redrawn W3 d) os))
   have k4 : ∀ d os, (grow (redrawn W3 d) os).cell? ⟨g, 1, none⟩ = some (.int .i64 m.rq.fy) := cell_regrown (hQ.get (i := 1) rfl)
   have c4 := fun d os => Calls.regrown_of (call2 hL4 (grow (redrawn W3 d) os))
   have k5 : ∀ d os, (grow (redrawn W3 d) os).cell? ⟨g, 2, none⟩ = some (.int .i64 m.rq.tx) := cell_regrown (hQ.get (i := 2) rfl)
   have c5 := fun d os => Calls.regrown_of (call2 hL5 (grow (redrawn W3 d) os))
   have k6 : ∀ d os, (grow (redrawn W3 d) os).cell? ⟨g, 3, none⟩ = some (.int .i64 m.rq.ty) := cell_regrown (hQ.get (i := 3) rfl)
   have c6 := fun d os => Calls.regrown_of (call2 hL6 (grow (redrawn W3 d) os))
   replace hA4 := Lib.hid hA4
   replace hQ := Lib.hid hQ
   go_upto_region 5 with fail
   refine wp_region_quiet_below (by kernel_rfl) (by kernel_rfl) ?_
   repeat (go_big_quiet_step (first | with_reducible exact c1 _ _ | with_reducible exact c2 _ _ | with_reducible exact c3 _ _ | with_reducible exact c4 _ _ | with_reducible exact c5 _ _ | with_reducible exact c6 _ _))
   refine wpQuiet_nil ?_
   first | (rintro w2 ⟨⟨d, os⟩, rfl⟩) | (intro pq; obtain ⟨d, os⟩ := pq)
   have hB4 := Lib.hid (hB3.out.trans ((below_regrown W3 d os).mono (Nat.le_of_lt hz3)))
   have hA5 := hA4.out.on (below_regrown W3 d os)
   have hQ4 := hQ.out.on (below_regrown W3 d os)
   have hz4 : n < (grow (redrawn W3 d) os).heap.size := Nat.lt_of_lt_of_le hz3 (below_regrown W3 d os).size
   dsimp only
   clear k1 c1 k2 c2 k3 c3 k4 c4 k5 c5 k6 c6
   generalize grow (redrawn W3 d) os = W4 at hB4 hA5 hQ4 hz4 ⊢
   have k7 : ∀ d os, (grow (redrawn W4 d) os).cell? ⟨g, 4, none⟩ = some (.int .i64 m.rq.pe) := cell_regrown (hQ4.get (i := 4) rfl)
   have c7 := fun d os => Calls.regrown_of (call4 hL7 (grow (redrawn W4 d) os))
   have k8 : ∀ d os, (grow (redrawn W4 d) os).cell? ⟨g, 5, none⟩ = some (.int .i64 m.rq.pl) := cell_regrown (hQ4.get (i := 5) rfl)
   have c8 := fun d os => Calls.regrown_of (call4 hL8 (grow (redrawn W4 d) os))
   have k9 : ∀ d os, (grow (redrawn W4 d) os).cell? ⟨g, 6, none⟩ = some (.int .i64 m.rq.de) := cell_regrown (hQ4.get (i := 6) rfl)
   have c9 := fun d os => Calls.regrown_of (call4 hL9 (grow (redrawn W4 d) os))
   have k10 : ∀ d os, (grow (redrawn W4 d) os).cell? ⟨g, 7, none⟩ = some (.int .i64 m.rq.dl) := cell_regrown (hQ4.get (i := 7) rfl)
   have c10 := fun d os => Calls.regrown_of (call4 hL10 (grow (redrawn W4 d) os))
   replace hA5 := Lib.hid hA5
   replace hQ4 := Lib.hid hQ4
   go_upto_region 6 with fail
   refine wp_region_quiet_below (by kernel_rfl) (by kernel_rfl) ?_
   repeat (go_big_quiet_step (first | with_reducible exact c7 _ _ | with_reducible exact c8 _ _ | with_reducible exact c9 _ _ | with_reducible exact c10 _ _))
   refine wpQuiet_nil ?_
   first | (rintro w2 ⟨⟨d, os⟩, rfl⟩) | (intro pq; obtain ⟨d, os⟩ := pq)
   have hB5 := Lib.hid (hB4.out.trans ((below_regrown W4 d os).mono (Nat.le_of_lt hz4)))
   have hA6 := hA5.out.on (below_regrown W4 d os)
   have hQ5 := hQ4.out.on (below_regrown W4 d os)
   have hz5 : n < (grow (redrawn W4 d) os).heap.size := Nat.lt_of_lt_of_le hz4 (below_regrown W4 d os).size
   dsimp only
   clear k7 c7 k8 c8 k9 c9 k10 c10
   generalize grow (redrawn W4 d) os = W5 at hB5 hA6 hQ5 hz5 ⊢
   have k11 : ∀ d os, (grow (redrawn W5 d) os).cell? ⟨g, 8, none⟩ = some (.int .i64 m.rq.ld) := cell_regrown (hQ5.get (i := 8) rfl)
   have c11 := fun d os => Calls.regrown_of (call2 hL11 (grow (redrawn W5 d) os))
   have k12 : ∀ d os, (grow (redrawn W5 d) os).cell? ⟨g, 9, none⟩ = some (.int .i64 m.rq.sv) := cell_regrown (hQ5.get (i := 9) rfl)
   have c12 := fun d os => Calls.regrown_of (call2 hL12 (grow (redrawn W5 d) os))
   replace hA6 := Lib.hid hA6
   replace hQ5 := Lib.hid hQ5
   go_upto_region 7 with fail
   refine wp_region_quiet_below (by kernel_rfl) (by kernel_rfl) ?_
   repeat (go_big_quiet_step (first | with_reducible exact c11 _ _ | with_reducible exact c12 _ _))
   refine wpQuiet_nil ?_
   first | (rintro w2 ⟨⟨d, os⟩, rfl⟩) | (intro pq; obtain ⟨d, os⟩ := pq)
   have hB6 := Lib.hid (hB5.out.trans ((below_regrown W5 d os).mono (Nat.le_of_lt hz5)))
   have hA7 := hA6.out.on (below_regrown W5 d os)
   have hQ6 := hQ5.out.on (below_regrown W5 d os)
   have hz6 : n < (grow (redrawn W5 d) os).heap.size := Nat.lt_of_lt_of_le hz5 (below_regrown W5 d os).size
   dsimp only
   clear k11 c11 k12 c12
   generalize grow (redrawn W5 d) os = W6 at hB6 hA7 hQ6 hz6 ⊢
   go_wp2
   go_ret
   exact ⟨ret_str (by rw [hs.out]), hB6.out⟩
 by_cases e2 : m.kind = 2
 · obtain ⟨L1, hL1⟩ := lays (k := 1) (hf.out.k24 (.inl e2)) (by omega)
   have l1 := hL1.len
   have ld := hm.out.dig
   have hs := Lib.hid (show R = L0 ++ (L1 ++ m.dig) by rw [hR.out, partL, if_neg (by omega), if_pos e2, hL1.eq])
   have k2 := cell_regrown (hA2.get ms_car)
   have c1 := fun d os => Calls.regrown_of (call1 hL1 (grow (redrawn W2 d) os))
   have ht := fun d os => part_text (grow (redrawn W2 d) os) n 15 32 32 m.dig ld.symm (fun j b hb => cell_regrown (hA2.get (ms_dig (by rw [List.getElem?_map, hb]; rfl))) d os)
   have hA3 := Lib.hid hA2
   clear hA2
   generalize m.dig = D at *
   go_upto_region 9 with fail
   refine wp_region_quiet_below (by kernel_rfl) (by kernel_rfl) ?_
   repeat (go_big_quiet_step (first | with_reducible exact c1 _ _ | with_reducible exact ht _ _))
   refine wpQuiet_nil ?_
   first | (rintro w2 ⟨⟨d, os⟩, rfl⟩) | (intro pq; obtain ⟨d, os⟩ := pq)
   have hB3 := Lib.hid (hB2.out.trans ((below_regrown W2 d os).mono (Nat.le_of_lt hz2)))
   dsimp only
   generalize grow (redrawn W2 d) os = W3 at hB3 ⊢
   go_wp2
   go_ret
   exact ⟨ret_str (by rw [hs.out]), hB3.out⟩
 by_cases e4 : m.kind = 4
 · obtain ⟨L1, hL1⟩ := lays (k := 1) (hf.out.k24 (.inr e4)) (by omega)
   have l1 := hL1.len
   have g8 := Lib.hid (fun W => laid8_any m.bid hf.out.bid W)
   have g9 := Lib.hid (fun W => laid8_any m.nonce hf.out.nonce W)
   obtain ⟨L2, hL2⟩ : ∃ L, laidL m.bid 8 = L := ⟨_, rfl⟩
   obtain ⟨L3, hL3⟩ : ∃ L, laidL m.nonce 8 = L := ⟨_, rfl⟩
   have l2 : L2.length = 8 := by rw [← hL2, laidL_length]
   have l3 : L3.length = 8 := by rw [← hL3, laidL_length]
   have hs := Lib.hid (show R = L0 ++ (L1 ++ (L2 ++ L3)) by rw [hR.out, partL, if_neg (by omega), if_neg (by omega), if_pos e4, hL1.eq, hL2, hL3])
   simp only [hL2, hL3] at g8 g9
   clear hL2 hL3
   have a8 := hA2.get (ms_bid hm.out.dig)
   go_wp2_with fail
   refine (g8.out W2).mono ?_
   rintro e W3 ⟨rfl, hb3⟩
   have hB3 := Lib.hid (hB2.out.trans (hb3.mono (Nat.le_of_lt hz2)))
   have hA3 := hA2.on hb3
   have a9 := hA3.get (ms_nonce hm.out.dig)
   have hz3 : n < W3.heap.size := Nat.lt_of_lt_of_le hz2 hb3.size
   clear a8 a0 hA2 hb3
   go_wp2_with fail
   refine (g9.out W3).mono ?_
   rintro e W4 ⟨rfl, hb4⟩
   have hB4 := Lib.hid (hB3.out.trans (hb4.mono (Nat.le_of_lt hz3)))
   have hA4 := hA3.on hb4
   have a2 := hA4.get ms_car
   have hz4 : n < W4.heap.size := Nat.lt_of_lt_of_le hz3 hb4.size
   clear a9 hA3 hb4
   go_wp2_with fail
   refine (call1 hL1 W4).mono ?_
   rintro e W5 ⟨rfl, hb5⟩
   have hB5 := Lib.hid (hB4.out.trans (hb5.mono (Nat.le_of_lt hz4)))
   clear hA4 a2 hb5
   go_wp2
   go_ret
   exact ⟨ret_str (by rw [hs.out]), hB5.out⟩
 by_cases e5 : m.kind = 5
 · obtain ⟨L1, hL1⟩ := lays (k := 1) (hf.out.k5 e5).1 (by omega)
   have l1 := hL1.len
   obtain ⟨L2, hL2⟩ := lays (k := 1) (hf.out.k5 e5).2 (by omega)
   have l2 := hL2.len
   have g8 := Lib.hid (fun W => laid8_any m.oc.pr hf.out.pr W)
   obtain ⟨L3, hL3⟩ : ∃ L, laidL m.oc.pr 8 = L := ⟨_, rfl⟩
   have l3 : L3.length = 8 := by rw [← hL3, laidL_length]
   have hs := Lib.hid (show R = L0 ++ (L1 ++ (L2 ++ L3)) by rw [hR.out, partL, if_neg (by omega), if_neg (by omega), if_neg (by omega), if_pos e5, hL1.eq, hL2.eq, hL3])
   simp only [hL3] at g8
   clear hL3
   have a52 := hA2.get (ms_pr hm.out.dig)
   go_wp2_with fail
   refine (g8.out W2).mono ?_
   rintro e W3 ⟨rfl, hb3⟩
   have hB3 := Lib.hid (hB2.out.trans (hb3.mono (Nat.le_of_lt hz2)))
   have hA3 := hA2.on hb3
   have hz3 : n < W3.heap.size := Nat.lt_of_lt_of_le hz2 hb3.size
   have k50 := cell_regrown (hA3.get (ms_st hm.out.dig))
   have k51 := cell_regrown (hA3.get (ms_wn hm.out.dig))
   have wnA := (hf.out.k5 e5).2.1
   have wnB := (hf.out.k5 e5).2.2
   have c1 := fun d os => Calls.regrown_of (call1 hL1 (grow (redrawn W3 d) os))
   have c2 := fun d os => Calls.regrown_of (call1 hL2 (grow (redrawn W3 d) os))
   clear a0 a52 hb3
   replace hA2 := Lib.hid hA2
   replace hA3 := Lib.hid hA3
   go_upto_region 16 with fail
   refine wp_region_quiet_below (by kernel_rfl) (by kernel_rfl) ?_
   repeat (go_big_quiet_step (first | with_reducible exact c1 _ _ | with_reducible exact c2 _ _))
   refine wpQuiet_nil ?_
   first | (rintro w2 ⟨⟨d, os⟩, rfl⟩) | (intro pq; obtain ⟨d, os⟩ := pq)
   have hB4 := Lib.hid (hB3.out.trans ((below_regrown W3 d os).mono (Nat.le_of_lt hz3)))
   dsimp only
   generalize grow (redrawn W3 d) os = W4 at hB4 ⊢
   go_wp2
   go_ret
   exact ⟨ret_str (by rw [hs.out]), hB4.out⟩
 have hf3 := hf.out.k3 e1 e2 e4 e5
 have hn8 : Nn ≤ 8 := by have := hf3.1; rw [hNl.out] at this; exact this
 have hfm := Lib.hid hf3.2
 obtain ⟨LN, hLN⟩ := lays (n := (Nn : Int)) (k := 1) ⟨by omega, by omega⟩ (by omega)
 have lN := hLN.len
 replace hR := Lib.hid (show R = L0 ++ (LN ++ marksL m.marks) by rw [hR.out, partL, if_neg e1, if_neg e2, if_neg e4, if_neg e5, ← hLN.eq, lay1, hNl.out]; rfl)
 have a47 := hA2.get (ms_marks hm.out.dig)
 go_wp2_with fail
 refine (call1 hLN W2).mono ?_
 rintro e W3 ⟨rfl, hb3⟩
 have hB3 := Lib.hid (hB2.out.trans (hb3.mono (Nat.le_of_lt hz2)))
 have hA3 := Lib.hid (hA2.on hb3)
 have hM3 := Lib.hid (RowB.keep hM2.out (hb3.mono (Nat.le_of_lt hz2)) (Nat.le_refl _))
 have hz3 : n < W3.heap.size := Nat.lt_of_lt_of_le hz2 hb3.size
 clear hA2 a47 a0 hb3
 go_wp2_with fail
 go_loopw [3, 11] (fun s c wr => ∃ i : Nat, c = .int .i64 (i : Int) ∧ s = .string (str (L0 ++ (LN ++ marksL (m.marks.take i)))) ∧ i ≤ Nn ∧ Hid (Below W3.heap.size W3 wr))
  (fun _ c _ => Nn - (RowKit.intOf c).toNat)
 case atStart => exact ⟨0, rfl, by simp [marksL], Nat.zero_le _, Lib.hid (.refl _ _)⟩
 case round =>
  obtain ⟨wi, hwi⟩ : ∃ wi, wi = wr := ⟨_, rfl⟩
  subst hwi
  obtain ⟨i, rfl, rfl, hiN, hBl⟩ := hrel
  have hBw := Lib.hid (hB3.out.trans (hBl.out.mono (Nat.le_of_lt hz3)))
  have hA4 := hA3.out.on hBl.out
  have hM4 := RowB.keep hM3.out (hBl.out.mono (Nat.le_of_lt hz3)) (Nat.le_refl _)
  have a47 := hA4.get (ms_marks hm.out.dig)
  have b47 := cell_regrown a47
  replace hA4 := Lib.hid hA4
  by_cases hlt : i < Nn
  case neg =>
   obtain rfl : i = Nn := by omega
   have hs := Lib.hid (show R = L0 ++ (LN ++ marksL (m.marks.take i)) by rw [hR.out, List.take_of_length_le (by rw [hNl.out]; exact Nat.le_refl _)])
   have hlti : ¬ (i : Int) < (i : Int) := by omega
   clear hlt
   go_wp2
   go_ret
   exact ⟨ret_str (by rw [hs.out]), hBw.out⟩
  have hlt' : (i : Int) < (Nn : Int) := by omega
  obtain ⟨q, hq⟩ : ∃ q, m.marks[i]? = some q := ⟨_, List.getElem?_eq_getElem (by rw [hNl.out]; exact hlt)⟩
  obtain ⟨L1, hL1⟩ := lays (k := 1) (hfm.out q (List.mem_of_getElem? hq)) (by omega)
  have l1 := hL1.len
  have ld : q.2.length = 32 := hm.out.marks q (List.mem_of_getElem? hq)
  obtain ⟨g, o, rfl, hg, hpc⟩ := mark_at hM4 hq
  have c0 := cell_regrown (hpc 0 _ rfl)
  rw [Nat.add_zero] at c0
  have c1 := fun d os => Calls.regrown_of (call1 hL1 (grow (redrawn wi d) os))
  have ht := fun d os => part_text (grow (redrawn wi d) os) g (o + i * 33 + 1) 32 32 q.2 ld.symm (fun j b hb => by
   have := cell_regrown (hpc (1 + j) (u8V b) (by rw [Nat.add_comm 1 j]; simp [markC, hb])) d os
   rwa [← Nat.add_assoc] at this)
  obtain ⟨S, hS⟩ : ∃ S, L0 ++ (LN ++ marksL (m.marks.take i)) = S := ⟨_, rfl⟩
  have hSl : S.length ≤ 1000 := by
   rw [← hS, List.length_append, List.length_append, l0, lN]
   have := marksL_len (l := m.marks.take i) (fun p hp => hm.out.marks p (List.mem_of_mem_take hp))
   rw [this, List.length_take]
   omega
  have hSn := Lib.hid (show L0 ++ (LN ++ marksL (m.marks.take (i + 1))) = S ++ (L1 ++ q.2) by
   rw [← hS, take_snoc hq, marksL_snoc, markL, hL1.eq]
   simp)
  simp only [hS]
  have hSi : (S.length : Int) ≤ 1000 := by omega
  have hltH := Lib.hid hlt
  have hz := hBw.out.size
  replace hS := Lib.hid hS
  clear hlt hpc
  replace hq := Lib.hid hq
  generalize q.2 = D at *
  go_upto_region 21 with fail
  refine wp_region_quiet_below (by kernel_rfl) (by kernel_rfl) ?_
  repeat (go_big_quiet_step (first | with_reducible exact c1 _ _ | with_reducible exact ht _ _))
  refine wpQuiet_nil ?_
  first | (rintro w2 ⟨⟨d, os⟩, rfl⟩) | (intro pq; obtain ⟨d, os⟩ := pq)
  have hB5 := Lib.hid (hBl.out.trans ((below_regrown wi d os).mono hBl.out.size))
  dsimp only
  generalize grow (redrawn wi d) os = w5 at hB5 ⊢
  go_wp2_with fail
  go_roundw
  case rel => exact ⟨i + 1, by go_num, by rw [hSn.out], by have := hltH.out; omega, hB5⟩
  case measure => have := hltH.out; simp [RowKit.intOf]; omega
end Go.Proofs.Ytpefdmkfmcjfnaa.Ms

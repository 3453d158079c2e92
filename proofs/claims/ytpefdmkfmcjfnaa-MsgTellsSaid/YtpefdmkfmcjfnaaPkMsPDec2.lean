import Derived.Test.YtpefdmkfmcjfnaaPkFrCount

namespace Go.Proofs.Ytpefdmkfmcjfnaa.Mp
open Go.RowKit Go.Sort Go.Proofs.Ytpefdmkfmcjfnaa.Mem Go.Proofs.Ytpefdmkfmcjfnaa.Route Go.Proofs.Ytpefdmkfmcjfnaa.Oct Go.Proofs.Ytpefdmkfmcjfnaa.Ms Go.Proofs.Ytpefdmkfmcjfnaa.Part
set_option linter.unusedVariables false
theorem z0d : z0.dig.length = 32 := rfl
def MsgOut (m : Ms) (E : Int) (w : World) (e : Ending) (w' : World) : Prop :=
 ∃ x N c, e = .returned (.tuple #[.agg (msC m (.slice x N c)).toArray, .int .i64 E]) ∧ NewMarks w.heap.size w' (.slice x N c) m.marks ∧ Below w.heap.size w w'
theorem out_z0 {E : Int} {w w' : World} (h : Below w.heap.size w w') : MsgOut z0 E w (.returned (.tuple #[.agg (msC z0 nilS).toArray, .int .i64 E])) w' := ⟨none, 0, 0, rfl, NewMarks.none _ _, h⟩
theorem front_cases (s : Bs) : (Fr.paE s ≠ 0 ∧ rdM s = (z0, Fr.paE s)) ∨ (∃ f, Fr.front s = some f ∧ f.rest = [] ∧ Fr.paE s = 0 ∧ Fr.paK s = (f.k : Int) ∧ Fr.paB s = f.body ∧ ((betB f.k 1 5 = false ∧ rdM s = (z0, 15)) ∨ (betB f.k 1 5 = true ∧ rdM s = ((readA f.k (some f.body)).1, endS (readA f.k (some f.body)).2)))) := by
 unfold Fr.paE Fr.paK Fr.paB rdM
 cases hf : Fr.front s with
 | none => exact .inl ⟨by decide, rfl⟩
 | some f =>
  by_cases hr : f.rest = []
  · refine .inr ⟨f, rfl, hr, by simp [hr], by simp [hr], by simp [hr], ?_⟩
    have hb : betB f.k 1 5 = decide (1 ≤ (f.k : Int) ∧ (f.k : Int) ≤ 5) := by simp [betB, Bool.decide_and]
    by_cases hk : (f.k : Int) < 1 ∨ 5 < (f.k : Int)
    · refine .inl ⟨by rw [hb, decide_eq_false_iff_not]; omega, ?_⟩
      simp only
      rw [if_pos (by exact .inr hk)]
    · refine .inr ⟨by rw [hb, decide_eq_true_eq]; omega, ?_⟩
      simp only
      rw [if_neg (by intro h; rcases h with h | h; exact h hr; exact hk h)]
  · refine .inl ⟨by simp [hr], ?_⟩
    simp only
    rw [if_pos (.inl hr), if_neg hr]
set_option maxRecDepth 100000 in
set_option maxHeartbeats 16000000 in
theorem read_any (s : Bs) (hs : s.length ≤ 9223372036854775000) (w : World) :
 Calls Try.prog 30 #[.string (str s)] w fun e w' => MsgOut (rdM s).1 (rdM s).2 w e w' := by
 have hP := Lib.hid (fun W => Fr.Parse_any s (by omega) W)
 have hA : AtL (w.alloc (.cells (msC z0 nilS).toArray 42)) w.heap.size 42 (msC z0 nilS) := AtL.new w _ _
 have hB : Below w.heap.size w (w.alloc (.cells (msC z0 nilS).toArray 42)) := (Below.refl _ _).alloc (Nat.le_refl _) _
 have hfc := front_cases s
 obtain ⟨R, hR⟩ : ∃ R, rdM s = R := ⟨_, rfl⟩
 rw [hR] at hfc ⊢
 go_enter Try.func30, Try.ntmps30
 go_upto_region 1 with fail
 rw [z0_lit]
 obtain ⟨n, hn⟩ : ∃ n, w.heap.size = n := ⟨_, rfl⟩
 generalize w.alloc (.cells (msC z0 nilS).toArray 42) = W at hA hB ⊢
 rw [hn] at hA
 try simp only [hn]
 replace hn := Lib.hid hn
 replace hA := Lib.hid hA
 replace hB := Lib.hid hB
 replace hR := Lib.hid hR
 rcases hfc with ⟨hE, hr⟩ | ⟨f, hf, hfr, hE, hK, hbd, hcase⟩
 · subst hr
   have hp := hP.out W
   obtain ⟨k0, hk0⟩ : ∃ k, Fr.paK s = k := ⟨_, rfl⟩
   obtain ⟨b0, hb0⟩ : ∃ k, Fr.paB s = k := ⟨_, rfl⟩
   rw [hk0, hb0] at hp
   replace hp := Lib.hid hp
   clear hk0 hb0 hP
   go_wp2_with fail
   refine hp.out.mono ?_
   rintro e w1 ⟨rfl, hb1⟩
   have hA1 := hA.out.on hb1
   have hB1 := Lib.hid (hB.out.trans (hb1.mono hB.out.size))
   have hA2 := Lib.hid (hA1.row (putL (msC z0 nilS) 0 (msC z0 nilS)))
   have hB2 := Lib.hid (below_row hB1.out (g := n) (by rw [hn.out]; exact Nat.le_refl _) (putL (msC z0 nilS) 0 (msC z0 nilS)).toArray)
   replace hA1 := Lib.hid hA1
   clear hA hB hb1
   go_wp2_with (first | (refine wpList_built0 rfl 42 rfl _ built_z ?_) | (refine wpList_store_part rfl 42 _ _ rfl n 0 (msC z0 nilS) rfl rfl 42 (msC z0 nilS) hA1.out (size_msg rfl) (less_msg rfl rfl) (ms_one rfl) ?_))
   have hA3 := hA2.out
   have hB3 := hB2.out
   rw [put_msg rfl rfl] at hA3 hB3 ⊢
   refine bodyPost_ret (ret_array_tmp rfl rfl rfl hA3 _ Try.underlying42 rfl (size_msg rfl)) rfl ?_
   exact out_z0 hB3
 have hp := hP.out W
 rw [hK, hbd, hE] at hp
 obtain ⟨k, hk⟩ : ∃ k : Nat, f.k = k := ⟨_, rfl⟩
 obtain ⟨b, hb⟩ : ∃ b, f.body = b := ⟨_, rfl⟩
 rw [hk, hb] at hp hcase
 have hlb : b.length ≤ 9223372036854775000 := by
  have := (Fr.front_some hf).2.1
  rw [hb] at this
  omega
 have hk6 : k < 256 := by have := (Fr.front_some hf).1; omega
 replace hp := Lib.hid hp
 clear hP hf hfr hE hK hbd hk hb
 rcases hcase with ⟨hbt, hr⟩ | ⟨hbt, hr⟩
 · subst hr
   go_wp2_with fail
   refine hp.out.mono ?_
   rintro e w1 ⟨rfl, hb1⟩
   have hA1 := hA.out.on hb1
   have hB1 := Lib.hid (hB.out.trans (hb1.mono hB.out.size))
   have hA2 := Lib.hid (hA1.row (putL (msC z0 nilS) 0 (msC z0 nilS)))
   have hB2 := Lib.hid (below_row hB1.out (g := n) (by rw [hn.out]; exact Nat.le_refl _) (putL (msC z0 nilS) 0 (msC z0 nilS)).toArray)
   replace hA1 := Lib.hid hA1
   have hbe := Lib.hid (between_any k 1 5 w1)
   rw [hbt] at hbe
   clear hA hB hb1 hp
   go_wp2_with fail
   refine hbe.out.mono ?_
   rintro e w2 ⟨rfl, rfl⟩
   go_wp2_with (first | (refine wpList_built0 rfl 42 rfl _ built_z ?_) | (refine wpList_store_part rfl 42 _ _ rfl n 0 (msC z0 nilS) rfl rfl 42 (msC z0 nilS) hA1.out (size_msg rfl) (less_msg rfl rfl) (ms_one rfl) ?_))
   have hA3 := hA2.out
   have hB3 := hB2.out
   rw [put_msg rfl rfl] at hA3 hB3 ⊢
   refine bodyPost_ret (ret_array_tmp rfl rfl rfl hA3 _ Try.underlying42 rfl (size_msg rfl)) rfl ?_
   exact out_z0 hB3
 -- a body that is read
 have hok := readA_ok k (some b)
 have hwk : ∀ p : Nat × Nat, True := fun _ => trivial
 go_wp2_with fail
 refine hp.out.mono ?_
 rintro e w1 ⟨rfl, hb1⟩
 have hA1 := hA.out.on hb1
 have hB1 := hB.out.trans (hb1.mono hB.out.size)
 have hbe := Lib.hid (between_any k 1 5 w1)
 rw [hbt] at hbe
 clear hA hB hb1 hp
 obtain ⟨q, hq⟩ : ∃ q, w1.heap.size = q := ⟨_, rfl⟩
 have hnq : n < q := by rw [← hq]; exact hA1.inside
 have hM2 : AtL ((w1.alloc (.cells (msC z0 nilS).toArray 42)).setRow q (putL (msC z0 nilS) 0 (msC (zK k) nilS)).toArray) q 42 (msC (zK k) nilS) := by
  have h1 : AtL (w1.alloc (.cells (msC z0 nilS).toArray 42)) q 42 (msC z0 nilS) := by rw [← hq]; exact AtL.new w1 _ _
  have := h1.row (putL (msC z0 nilS) 0 (msC (zK k) nilS))
  exact atL_eq this (put_msg rfl rfl)
 have hq0 : AtL (w1.alloc (.cells (msC z0 nilS).toArray 42)) q 42 (msC z0 nilS) := by rw [← hq]; exact AtL.new w1 _ _
 have hA2 : AtL ((w1.alloc (.cells (msC z0 nilS).toArray 42)).setRow q (putL (msC z0 nilS) 0 (msC (zK k) nilS)).toArray) n 42 (msC z0 nilS) := (hA1.alloc _).rowFar (by omega) _
 have hB2 : Below w.heap.size w ((w1.alloc (.cells (msC z0 nilS).toArray 42)).setRow q (putL (msC z0 nilS) 0 (msC (zK k) nilS)).toArray) := below_row (hB1.alloc hB1.size _) (by rw [hn.out]; omega) _
 have hz2 : ((w1.alloc (.cells (msC z0 nilS).toArray 42)).setRow q (putL (msC z0 nilS) 0 (msC (zK k) nilS)).toArray).heap.size = q + 1 := by rw [setRow_size, World.size_alloc, hq]
 rw [← hq] at hq0
 replace hq0 := Lib.hid hq0
 replace hM2 := Lib.hid hM2
 replace hA2 := Lib.hid hA2
 replace hB2 := Lib.hid hB2
 replace hz2 := Lib.hid hz2
 replace hq := Lib.hid hq
 clear hA1 hB1
 go_wp2_with fail
 refine hbe.out.mono ?_
 rintro e w2 ⟨rfl, hw2⟩
 obtain rfl : w1 = w2 := hw2.symm
 go_upto_region 7 with (first | (refine wpList_built1 rfl 42 0 _ rfl _ rfl _ (built_k _) ?_) | (rw [z0_lit]; refine wpList_store_part rfl 42 _ _ rfl w1.heap.size 0 (msC (zK k) nilS) rfl rfl 42 (msC z0 nilS) hq0.out (size_msg rfl) (less_msg rfl rfl) (ms_one rfl) ?_))
 simp only [Act.put]
 rw [hq.out]
 generalize (w1.alloc (.cells (msC z0 nilS).toArray 42)).setRow q (putL (msC z0 nilS) 0 (msC (zK k) nilS)).toArray = w2 at hM2 hA2 hB2 hz2 ⊢
 have hRd := Lib.hid (Read_any b w2)
 obtain ⟨r, hr2⟩ : ∃ r, w2.heap.size = r := ⟨_, rfl⟩
 have hqr : q < r := by have := hz2.out; omega
 rw [hr2] at hRd
 clear hq0 hbe
 go_wp2_with fail
 refine hRd.out.mono ?_
 rintro e w3 ⟨rfl, hR3, hb3⟩
 have hM3 := hM2.out.keep hb3 hqr
 have hA3 := hA2.out.keep hb3 (by omega)
 have hB3 := hB2.out.trans (hb3.mono (by rw [← hr2]; exact hB2.out.size))
 have hr3 : r < w3.heap.size := hR3.inside
 obtain ⟨p, hp2⟩ : ∃ p, w3.heap.size = p := ⟨_, rfl⟩
 have hrp : r < p := by omega
 have hP4 : At (w3.alloc (.cells #[.pointer (some ⟨r, 0, none⟩)] 106)) p 106 #[.pointer (some ⟨r, 0, none⟩)] := by rw [← hp2]; exact At.new w3 _ _
 have hM4 := hM3.alloc (.cells #[.pointer (some ⟨r, 0, none⟩)] 106)
 have hA4 := hA3.alloc (.cells #[.pointer (some ⟨r, 0, none⟩)] 106)
 have hR4 : RdAt (w3.alloc (.cells #[.pointer (some ⟨r, 0, none⟩)] 106)) r (some b) := At.alloc hR3 _
 have hB4 := hB3.alloc hB3.size (.cells #[.pointer (some ⟨r, 0, none⟩)] 106)
 replace hP4 := Lib.hid hP4
 replace hM4 := Lib.hid hM4
 replace hA4 := Lib.hid hA4
 replace hR4 := Lib.hid hR4
 replace hB4 := Lib.hid hB4
 replace hr2 := Lib.hid hr2
 replace hp2 := Lib.hid hp2
 clear hM2 hA2 hB2 hz2 hRd hR3 hM3 hA3 hB3 hb3 hr3
 go_upto_region 8 with fail
 try simp only [hp2.out]
 generalize w3.alloc (.cells #[.pointer (some ⟨r, 0, none⟩)] 106) = w4 at hP4 hM4 hA4 hR4 hB4 ⊢
 have cp := At.cell hP4.out 0
 simp at cp
 have hz4 : q < w4.heap.size := hM4.out.inside
 have hW := walk_rd k (some b) q r w4 (fun l hl => by cases hl; exact hlb) hM4.out hR4.out (by omega)
 obtain ⟨M, hMe⟩ : ∃ M, (readA k (some b)).1 = M := ⟨_, rfl⟩
 obtain ⟨st, hst⟩ : ∃ st, (readA k (some b)).2 = st := ⟨_, rfl⟩
 obtain ⟨E, hE⟩ : ∃ E, endS st = E := ⟨_, rfl⟩
 simp only [hMe, hst] at hW
 rw [hMe] at hok
 have hre := Lib.hid (show R = (M, E) by rw [hr, hMe, hst, hE])
 replace hW := Lib.hid hW
 have hE2 := Lib.hid hE
 clear hr hMe hst hwk hR hE
 go_wp2_with fail
 refine hW.out.mono ?_
 rintro e w5 ⟨rfl, hR5, ⟨x, N, c, hM5, hK5⟩, ht5⟩
 have hA5 := ht5.atL hA4.out (by omega) (by omega)
 have hP5 := ht5.at hP4.out (by omega) (by omega)
 have hB5 := hB4.out.trans (ht5.below (B := w.heap.size) (by rw [hn.out]; omega) (by rw [hn.out]; omega) hB4.out.size)
 have hdg := hok.1.dig
 replace hP5 := Lib.hid hP5
 replace hM5 := Lib.hid hM5
 replace hA5 := Lib.hid hA5
 replace hR5 := Lib.hid hR5
 replace hB5 := Lib.hid hB5
 replace hK5 := Lib.hid hK5
 clear hW hP4 hM4 hA4 hR4 hB4 ht5 cp
 go_upto_region 9 with fail
 refine Sched.wp_region_sched 4 (fun W W' => Below W.heap.size W W') (VX [.agg (msC M (.slice x N c)).toArray, .pointer (some ⟨p, 0, none⟩), .pointer (some ⟨r, 0, none⟩), .int .i64 E]) (fun _ _ _ => True) (by kernel_rfl) (by kernel_rfl) (by kernel_rfl) (fun h1 h2 => h1.trans (h2.mono h1.size)) (fun h _ => h) (Below.refl _ _).drew (fun _ => trivial) (Sched.StepsA.steps (by kernel_rfl) ?hS) ?hQ
 case hS =>
  simp only [List.take_succ_cons, List.take_zero]
  refine ⟨?_, ?_, ?_, ?_, trivial⟩
  · intro ys done W aa hE hn hF hD hZ hG hO
    replace hE : Below w5.heap.size w5 W := hE
    have o7 := hO 7 (by kernel_rfl)
    replace o7 : aa.tmps[7]? = some (.pointer (some ⟨q, 0, none⟩)) := o7
    have hMW := hM5.out.on hE
    replace hMW := Lib.hid hMW
    go_wp2_with (refine wpList_load_part rfl 42 _ rfl q 0 (by simp [Act.eval, o7]) (msC M (.slice x N c)) (fun j v hv => by rw [Nat.zero_add]; exact hMW.out.get hv) _ Try.underlying42 rfl (size_msg hdg) ?_)
    first | exact ⟨_, rfl, Below.refl _ _, VX.of rfl rfl, trivial⟩ | exact ⟨_, rfl, Below.refl _ _, VX.of rfl rfl⟩
  · intro ys done W aa hE hn hF hD hZ hG hO
    replace hE : Below w5.heap.size w5 W := hE
    have o8 := hO 8 (by kernel_rfl)
    replace o8 : aa.tmps[8]? = some (.pointer (some ⟨p, 0, none⟩)) := o8
    go_wp2_with fail
    first | exact ⟨_, rfl, Below.refl _ _, VX.of rfl rfl, trivial⟩ | exact ⟨_, rfl, Below.refl _ _, VX.of rfl rfl⟩
  · intro ys done W aa hE hn hF hD hZ hG hO
    replace hE : Below w5.heap.size w5 W := hE
    have v1 : ys 1 = .pointer (some ⟨p, 0, none⟩) := hF 1 (by decide) (hD 1 (by kernel_rfl)) _ rfl
    have g1 := hG 1 34 rfl (Nat.le_of_ble_eq_true rfl)
    rw [v1] at g1
    have hPW := At.cell (At.keep hP5.out hE (At.inside hP5.out)) 0
    simp at hPW
    go_wp2_with fail
    first | exact ⟨_, rfl, Below.refl _ _, VX.of rfl rfl, trivial⟩ | exact ⟨_, rfl, Below.refl _ _, VX.of rfl rfl⟩
  · intro ys done W aa hE hn hF hD hZ hG hO
    replace hE : Below w5.heap.size w5 W := hE
    have v2 : ys 2 = .pointer (some ⟨r, 0, none⟩) := hF 2 (by decide) (hD 2 (by kernel_rfl)) _ rfl
    have g2 := hG 2 35 rfl (Nat.le_of_ble_eq_true rfl)
    rw [v2] at g2
    have hEn := End_any r st W (hR5.out.on hE)
    rw [hE2.out] at hEn
    replace hEn := Lib.hid hEn
    go_wp2_with fail
    refine hEn.out.mono ?_
    rintro e W' ⟨rfl, rfl⟩
    go_wp2_with fail
    first | exact ⟨_, rfl, Below.refl _ _, VX.of rfl rfl, trivial⟩ | exact ⟨_, rfl, Below.refl _ _, VX.of rfl rfl⟩
 case hQ =>
  intro ys w6 hE hF _
  replace hE : Below w5.heap.size w5 w6 := hE
  have v0 : ys 0 = .agg (msC M (.slice x N c)).toArray := hF 0 (by decide) _ rfl
  have v3 : ys 3 = .int .i64 E := hF 3 (by decide) _ rfl
  simp only [List.take_succ_cons, List.take_zero, List.drop_succ_cons, List.drop_zero, Sched.fill, v0, v3]
  have hA6 := hA5.out.on hE
  have hK6 := Lib.hid (hK5.out.keep hE)
  have hB6 := hB5.out.trans (hE.mono hB5.out.size)
  have hA7 := atL_eq (hA6.row (putL (msC z0 nilS) 0 (msC M (.slice x N c)))) (put_msg z0d hdg)
  have hB7 := below_row hB6 (g := n) (by rw [hn.out]; exact Nat.le_refl _) (putL (msC z0 nilS) 0 (msC M (.slice x N c))).toArray
  replace hA6 := Lib.hid hA6
  replace hA7 := Lib.hid hA7
  replace hB7 := Lib.hid hB7
  clear hF v0 v3 hK5 hB5 hA5 hM5 hP5 hR5 hE hB6
  go_simp
  go_wp2_with (refine wpList_store_part rfl 42 _ _ rfl n 0 (msC M (.slice x N c)) rfl rfl 42 (msC z0 nilS) hA6.out (size_msg hdg) (less_msg z0d hdg) (ms_one rfl) ?_)
  have hA8 := hA7.out
  have hB8 := hB7.out
  have hK8 := (hK6.out.row (n := n) (by have := hp2.out; have := hz4; omega) (putL (msC z0 nilS) 0 (msC M (.slice x N c))).toArray).less (A := w.heap.size) (by rw [hn.out]; have := hz4; omega)
  rw [put_msg z0d hdg] at hA8 hB8 hK8 ⊢
  refine bodyPost_ret (ret_array_tmp rfl rfl rfl hA8 _ Try.underlying42 rfl (size_msg hdg)) rfl ?_
  rw [hre.out]
  exact ⟨x, N, c, rfl, hK8, hB8⟩
set_option maxRecDepth 100000 in
set_option maxHeartbeats 16000000 in
theorem Decode_any (s : Bs) (hs : s.length ≤ 9223372036854775000) (w : World) :
 Calls Try.prog 18 #[.string (str s)] w fun e w' => MsgOut (decS s).1 (decS s).2 w e w' := by
 have hP := Lib.hid (fun W => read_any s hs W)
 have hA : AtL (w.alloc (.cells (msC z0 nilS).toArray 42)) w.heap.size 42 (msC z0 nilS) := AtL.new w _ _
 have hB : Below w.heap.size w (w.alloc (.cells (msC z0 nilS).toArray 42)) := (Below.refl _ _).alloc (Nat.le_refl _) _
 have hdi := dec_is s
 obtain ⟨hok, hwd⟩ := rdM_ok s
 obtain ⟨R, hR⟩ : ∃ R, decS s = R := ⟨_, rfl⟩
 obtain ⟨M, hM⟩ : ∃ M, (rdM s).1 = M := ⟨_, rfl⟩
 obtain ⟨E, hE⟩ : ∃ M, (rdM s).2 = M := ⟨_, rfl⟩
 rw [hR, hM, hE] at hdi
 rw [hM] at hok hwd
 simp only [hM, hE] at hP
 rw [hR]
 replace hdi := Lib.hid hdi
 have hdg := hok.dig
 clear hs hR hM hE
 go_enter Try.func18, Try.ntmps18
 go_upto_region 1 with fail
 rw [z0_lit]
 obtain ⟨n, hn⟩ : ∃ n, w.heap.size = n := ⟨_, rfl⟩
 generalize w.alloc (.cells (msC z0 nilS).toArray 42) = W at hA hB ⊢
 rw [hn] at hA
 try simp only [hn]
 have hp := hP.out W
 clear hP
 replace hp := Lib.hid hp
 replace hn := Lib.hid hn
 replace hA := Lib.hid hA
 replace hB := Lib.hid hB
 go_wp2_with fail
 refine hp.out.mono ?_
 rintro e w1 ⟨x, N, c, rfl, hK1, hb1⟩
 have hA1 := hA.out.on hb1
 have hB1 := hB.out.trans (hb1.mono hB.out.size)
 have hK1 := hK1.less (A := w.heap.size) hB.out.size
 obtain ⟨q, hq⟩ : ∃ q, w1.heap.size = q := ⟨_, rfl⟩
 have hnq : n < q := by rw [← hq]; exact hA1.inside
 have hq0 : AtL (w1.alloc (.cells (msC z0 nilS).toArray 42)) q 42 (msC z0 nilS) := by rw [← hq]; exact AtL.new w1 _ _
 have hM2 : AtL ((w1.alloc (.cells (msC z0 nilS).toArray 42)).setRow q (putL (msC z0 nilS) 0 (msC M (.slice x N c))).toArray) q 42 (msC M (.slice x N c)) := atL_eq (hq0.row _) (put_msg z0d hdg)
 have hA2 : AtL ((w1.alloc (.cells (msC z0 nilS).toArray 42)).setRow q (putL (msC z0 nilS) 0 (msC M (.slice x N c))).toArray) n 42 (msC z0 nilS) := (hA1.alloc _).rowFar (by omega) _
 have hB2 : Below w.heap.size w ((w1.alloc (.cells (msC z0 nilS).toArray 42)).setRow q (putL (msC z0 nilS) 0 (msC M (.slice x N c))).toArray) := below_row (hB1.alloc hB1.size _) (by rw [hn.out]; omega) _
 have hK2 : NewMarks w.heap.size ((w1.alloc (.cells (msC z0 nilS).toArray 42)).setRow q (putL (msC z0 nilS) 0 (msC M (.slice x N c))).toArray) (.slice x N c) M.marks := by
  have h1 := hK1.keep ((Below.refl w1.heap.size w1).alloc (Nat.le_refl _) (.cells (msC z0 nilS).toArray 42))
  rcases h1 with h | ⟨q', C, e, h2, h3, h4, h5, h6⟩
  · exact .inl h
  · refine .inr ⟨q', C, e, h2, h3, h4, h5.rowFar ?_ _, h6⟩
    intro e'
    subst e'
    have h7 : some _ = some _ := hq0.symm.trans h5
    simp at h7
 rw [← hq] at hq0
 replace hq0 := Lib.hid hq0
 replace hM2 := Lib.hid hM2
 replace hA2 := Lib.hid hA2
 replace hB2 := Lib.hid hB2
 replace hK2 := Lib.hid hK2
 replace hq := Lib.hid hq
 clear hA hB hA1 hB1 hK1 hb1 hp
 go_upto_region 2 with (rw [z0_lit]; refine wpList_store_part rfl 42 _ _ rfl w1.heap.size 0 (msC M (.slice x N c)) rfl rfl 42 (msC z0 nilS) hq0.out (size_msg hdg) (less_msg z0d hdg) (ms_one rfl) ?_)
 try simp only [Act.put]
 rw [hq.out]
 generalize (w1.alloc (.cells (msC z0 nilS).toArray 42)).setRow q (putL (msC z0 nilS) 0 (msC M (.slice x N c))).toArray = w2 at hM2 hA2 hB2 hK2 ⊢
 have hA3 := Lib.hid (hA2.out.row (putL (msC z0 nilS) 0 (msC z0 nilS)))
 have hB3 := Lib.hid (below_row hB2.out (g := n) (by rw [hn.out]; exact Nat.le_refl _) (putL (msC z0 nilS) 0 (msC z0 nilS)).toArray)
 clear hq0 hq
 by_cases hE0 : E = 0
 case neg =>
  have hre := Lib.hid (show R = (z0, E) by rw [hdi.out, if_pos hE0])
  clear hM2 hK2
  go_wp2_with (first | (refine wpList_built0 rfl 42 rfl _ built_z ?_) | (refine wpList_store_part rfl 42 _ _ rfl n 0 (msC z0 nilS) rfl rfl 42 (msC z0 nilS) hA2.out (size_msg rfl) (less_msg rfl rfl) (ms_one rfl) ?_))
  have hA4 := hA3.out
  have hB4 := hB3.out
  rw [put_msg rfl rfl] at hA4 hB4 ⊢
  refine bodyPost_ret (ret_array_tmp rfl rfl rfl hA4 _ Try.underlying42 rfl (size_msg rfl)) rfl ?_
  rw [hre.out]
  exact out_z0 hB4
 subst hE0
 have hmay := Lib.hid (may_any M x N c hok w2 (hK2.out.marks))
 have hld := Lib.hid (fun j v (hv : (msC M (.slice x N c))[j]? = some v) => (show w2.cell? ⟨q, 0 + j, none⟩ = some v by rw [Nat.zero_add]; exact hM2.out.get hv))
 obtain ⟨V, hV⟩ : ∃ V, mayB M = V := ⟨_, rfl⟩
 rw [hV] at hmay
 go_upto_region 4 with fail
 go_wp2_with (refine wpList_load_part rfl 42 _ rfl q 0 rfl (msC M (.slice x N c)) hld.out _ Try.underlying42 rfl (size_msg hdg) ?_)
 refine hmay.out.mono ?_
 rintro e w3 ⟨rfl, hb3⟩
 have hM3 := Lib.hid (hM2.out.on hb3)
 have hA4 := hA2.out.on hb3
 have hB4 := hB2.out.trans (hb3.mono hB2.out.size)
 have hK4 := hK2.out.keep hb3
 clear hA3 hB3 hM2 hA2 hB2 hK2 hmay hb3
 cases V
 · have hre := Lib.hid (show R = (z0, 15) by rw [hdi.out, if_neg (by simp), hV]; rfl)
   have hA5 := Lib.hid (hA4.row (putL (msC z0 nilS) 0 (msC z0 nilS)))
   have hB5 := Lib.hid (below_row hB4 (g := n) (by rw [hn.out]; exact Nat.le_refl _) (putL (msC z0 nilS) 0 (msC z0 nilS)).toArray)
   replace hA4 := Lib.hid hA4
   clear hM3 hB4 hK4 hV
   go_wp2_with (first | (refine wpList_built0 rfl 42 rfl _ built_z ?_) | (refine wpList_store_part rfl 42 _ _ rfl n 0 (msC z0 nilS) rfl rfl 42 (msC z0 nilS) hA4.out (size_msg rfl) (less_msg rfl rfl) (ms_one rfl) ?_))
   have hA6 := hA5.out
   have hB6 := hB5.out
   rw [put_msg rfl rfl] at hA6 hB6 ⊢
   refine bodyPost_ret (ret_array_tmp rfl rfl rfl hA6 _ Try.underlying42 rfl (size_msg rfl)) rfl ?_
   rw [hre.out]
   exact out_z0 hB6
 · have hre := Lib.hid (show R = (M, 0) by rw [hdi.out, if_neg (by simp), hV]; rfl)
   have hA5 := Lib.hid (atL_eq (hA4.row (putL (msC z0 nilS) 0 (msC M (.slice x N c)))) (put_msg z0d hdg))
   have hB5 := Lib.hid (below_row hB4 (g := n) (by rw [hn.out]; exact Nat.le_refl _) (putL (msC z0 nilS) 0 (msC M (.slice x N c))).toArray)
   have hK5 : Hid (NewMarks w.heap.size (w3.setRow n (putL (msC z0 nilS) 0 (msC M (.slice x N c))).toArray) (.slice x N c) M.marks) := Lib.hid (by
    rcases hK4 with h | ⟨q', C, e, h2, h3, h4, h5, h6⟩
    · exact .inl h
    · refine .inr ⟨q', C, e, h2, h3, h4, h5.rowFar ?_ _, h6⟩
      intro e'
      subst e'
      have h7 : some _ = some _ := hA4.symm.trans h5
      simp at h7)
   have hld2 := Lib.hid (fun j v (hv : (msC M (.slice x N c))[j]? = some v) => (show w3.cell? ⟨q, 0 + j, none⟩ = some v by rw [Nat.zero_add]; exact hM3.out.get hv))
   replace hA4 := Lib.hid hA4
   clear hM3 hB4 hK4 hV hld
   go_wp2_with (first | (refine wpList_load_part rfl 42 _ rfl q 0 rfl (msC M (.slice x N c)) hld2.out _ Try.underlying42 rfl (size_msg hdg) ?_) | (refine wpList_store_part rfl 42 _ _ rfl n 0 (msC M (.slice x N c)) rfl rfl 42 (msC z0 nilS) hA4.out (size_msg hdg) (less_msg z0d hdg) (ms_one rfl) ?_))
   have hA6 := hA5.out
   have hB6 := hB5.out
   have hK6 := hK5.out
   rw [put_msg z0d hdg] at hA6 hB6 hK6 ⊢
   refine bodyPost_ret (ret_array_tmp rfl rfl rfl hA6 _ Try.underlying42 rfl (size_msg hdg)) rfl ?_
   rw [hre.out]
   exact ⟨x, N, c, rfl, hK6, hB6⟩
end Go.Proofs.Ytpefdmkfmcjfnaa.Mp

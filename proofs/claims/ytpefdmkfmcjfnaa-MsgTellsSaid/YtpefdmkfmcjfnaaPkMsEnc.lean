import Derived.Test.YtpefdmkfmcjfnaaPkMsBody
import Derived.Test.YtpefdmkfmcjfnaaPkMsMay

namespace Go.Proofs.Ytpefdmkfmcjfnaa.Ms
open Go.RowKit Go.Sort Go.Proofs.Ytpefdmkfmcjfnaa.Mem Go.Proofs.Ytpefdmkfmcjfnaa.Route Go.Proofs.Ytpefdmkfmcjfnaa.Oct Go.Proofs.Ytpefdmkfmcjfnaa.Part Go.Proofs.Ytpefdmkfmcjfnaa.Dr
set_option linter.unusedVariables false
theorem ret_si {a b : Bs} {c d : Int} (h : a = b) (h2 : c = d) : Ending.returned (.tuple #[.string (str a), .int .i64 c]) = .returned (.tuple #[.string (str b), .int .i64 d]) := by rw [h, h2]
structure Ms.wide (m : Ms) : Prop where
 bid : m.bid < 18446744073709551616
 nonce : m.nonce < 18446744073709551616
 pr : m.oc.pr < 18446744073709551616
theorem carB_iff (c : Int) : carB c = true ↔ 0 ≤ c ∧ c < 8 := by simp [carB]
theorem upB_at {l : List (Int × Bs)} (h : upB l = true) {i : Nat} (hi : i < l.length) : markB l i = true := by
 rw [upB, List.all_eq_true] at h
 exact h i (List.mem_range.2 hi)
theorem up_ge {l : List (Int × Bs)} (h : upB l = true) : ∀ (i : Nat) (p : Int × Bs), l[i]? = some p → (i : Int) ≤ p.1 ∧ p.1 < 8 := by
 intro i
 induction i with
 | zero =>
  intro p hp
  have h1 := upB_at h (List.getElem?_eq_some_iff.1 hp).1
  rw [markB_zero hp, carB_iff] at h1
  exact ⟨by simpa using h1.1, h1.2⟩
 | succ k ih =>
  intro p hp
  have hk := (List.getElem?_eq_some_iff.1 hp).1
  obtain ⟨r, hr⟩ : ∃ r, l[k]? = some r := ⟨_, List.getElem?_eq_getElem (by omega)⟩
  have h1 := upB_at h hk
  rw [markB_succ hp hr, Bool.and_eq_true, carB_iff, decide_eq_true_eq] at h1
  have h2 := ih r hr
  exact ⟨by omega, h1.1.2⟩
theorem up_len {l : List (Int × Bs)} (h : upB l = true) : l.length ≤ 8 := by
 by_cases h0 : l.length = 0
 · omega
 obtain ⟨r, hr⟩ : ∃ r, l[l.length - 1]? = some r := ⟨_, List.getElem?_eq_getElem (by omega)⟩
 have := up_ge h _ r hr
 omega
theorem up_fit {l : List (Int × Bs)} (h : upB l = true) : ∀ q ∈ l, Fit q.1 := by
 intro q hq
 obtain ⟨i, hi⟩ := List.mem_iff_getElem?.1 hq
 have := up_ge h i q hi
 exact ⟨by omega, by omega⟩
theorem rq_fit {r : Rq} (h : chkR r = 0) : Fit r.fx ∧ Fit r.fy ∧ Fit r.tx ∧ Fit r.ty ∧ Fit r.pe ∧ Fit r.pl ∧ Fit r.de ∧ Fit r.dl ∧ Fit r.ld ∧ Fit r.sv := by
 rw [chkR, Order.chk_iff, Place.mayB_iff, Place.mayB_iff, Window.okB_iff, Window.okB_iff] at h
 unfold Fit
 omega
theorem oc_fit {o : Oc} (h : ocB o = true) : Fit o.st ∧ Fit (o.wn + 1) := by
 unfold ocB at h
 unfold Fit
 split at h
 · rw [decide_eq_true_eq] at h; omega
 · rw [decide_eq_true_eq] at h; omega
theorem may_parts {m : Ms} (h : mayB m = true) : (1 ≤ m.kind ∧ m.kind ≤ 5 ∧ 0 ≤ m.rnd ∧ m.rnd < 16) ∧ m = bareM m ∧ kindB m = true := by
 rw [mayB, Bool.and_eq_true, Bool.and_eq_true, decide_eq_true_eq, sameB_iff] at h
 exact ⟨h.1, h.2.1, h.2.2⟩
theorem may_fits {m : Ms} (h : mayB m = true) (hw : m.wide) : Fits m := by
 obtain ⟨h1, h2, h3⟩ := may_parts h
 clear h2
 unfold kindB at h3
 refine ⟨⟨by omega, by omega⟩, hw.bid, hw.nonce, hw.pr, fun e => ?_, fun e => ?_, fun e => ?_, fun a b c d => ?_⟩
 · rw [if_pos e, decide_eq_true_eq] at h3
   obtain ⟨i1, i2, i3, i4, i5⟩ := h3
   exact ⟨⟨i1, by omega⟩, ⟨i3, by omega⟩, rq_fit i5⟩
 · rcases e with e | e
   · rw [if_neg (by omega), if_pos e, carB_iff] at h3
     exact ⟨h3.1, by omega⟩
   · rw [if_neg (by omega), if_neg (by omega), if_pos e, Bool.and_eq_true, carB_iff] at h3
     exact ⟨h3.1.1, by omega⟩
 · rw [if_neg (by omega), if_neg (by omega), if_neg (by omega), if_pos e] at h3
   exact oc_fit h3
 · rw [if_neg a, if_neg b, if_neg c, if_neg d] at h3
   exact ⟨up_len h3, up_fit h3⟩
theorem body_len {m : Ms} (hm : m.ok) (h : Fits m) : (bodyL m).length ≤ 1000 := by
 unfold bodyL partL
 split
 · simp only [List.length_append, lay1, laidL_length, rqL]; omega
 split
 · simp only [List.length_append, lay1, laidL_length, hm.dig]; omega
 split
 · simp only [List.length_append, lay1, laidL_length]; omega
 split
 · simp only [List.length_append, lay1, laidL_length]; omega
 · rename_i a b c d
   have h1 := (h.k3 a b c d).1
   simp only [List.length_append, lay1, laidL_length, marksL_len hm.marks]; omega
set_option maxRecDepth 100000 in
set_option maxHeartbeats 8000000 in
theorem refEncode_any (m : Ms) (x : Option Addr) (Nn cp : Nat) (hm : m.ok) (hw : m.wide) (w : World) (hM : MarksAt w.heap.size w (.slice x Nn cp) m.marks) :
 Calls Try.prog 23 #[.agg (msC m (.slice x Nn cp)).toArray] w fun e w' => e = .returned (.tuple #[.string (str (encL m)), .int .i64 (encE m)]) ∧ Below w.heap.size w w' := by
 obtain ⟨n, hn⟩ : ∃ n, w.heap.size = n := ⟨_, rfl⟩
 have hA : AtL (w.alloc (.cells (msC m (.slice x Nn cp)).toArray 42)) w.heap.size 42 (msC m (.slice x Nn cp)) := AtL.new w _ _
 have hB0 : Below w.heap.size w (w.alloc (.cells (msC m (.slice x Nn cp)).toArray 42)) := (Below.refl _ _).alloc (Nat.le_refl _) _
 have hz0 : n < (w.alloc (.cells (msC m (.slice x Nn cp)).toArray 42)).heap.size := by simp; omega
 have hM1 := Lib.hid (RowB.keep hM hB0 (Nat.le_refl _))
 have hsz := Lib.hid (ms_size (m := m) (v := .slice x Nn cp) hm.dig)
 have hmay := Lib.hid (show ∀ W, MarksAt n W (.slice x Nn cp) m.marks → n ≤ W.heap.size → Calls Try.prog 32 #[.agg (msC m (.slice x Nn cp)).toArray] W fun e w' => e = .returned (.bool (mayB m)) ∧ Below W.heap.size W w' from fun W h1 h2 => by
  exact may_any m x Nn cp hm W (RowB.more h1 h2))
 rw [hn] at hA hB0 hM1 hM ⊢
 go_enter Try.func23, Try.ntmps23
 go_upto_region 1 with fail
 generalize w.alloc (.cells (msC m (.slice x Nn cp)).toArray 42) = W1 at *
 replace hn := Lib.hid hn
 have hld := Lib.hid (whole_ms hA)
 have hA1 := Lib.hid hA
 clear hA hM
 replace hB0 := Lib.hid hB0
 refine wp_region_list ?_
 try dsimp only
 refine wpList_load_part_w rfl 42 _ rfl n 0 rfl (msC m (.slice x Nn cp)) hld.out _ Try.underlying42 rfl hsz.out ?_
 go_simp
 (refine BigFrame.wpList_want rfl ?_; intro K hK; replace hK := Lib.hid hK; go_wp2_with fail)
 refine (hmay.out W1 hM1.out (Nat.le_of_lt hz0)).mono ?_
 rintro e W2 ⟨rfl, hb2⟩
 have hB2 := Lib.hid (hB0.out.trans (hb2.mono (Nat.le_of_lt hz0)))
 have hA2 := hA1.out.on hb2
 have hM2 := Lib.hid (RowB.keep hM1.out (hb2.mono (Nat.le_of_lt hz0)) (Nat.le_refl _))
 have hz2 : n < W2.heap.size := Nat.lt_of_lt_of_le hz0 hb2.size
 clear hb2 hz0
 have hR1 := Lib.hid (show encL m = if mayB m then frameL m.kind.toNat (bodyL m) else [] from rfl)
 have hR2 := Lib.hid (show encE m = if mayB m then 0 else 15 from rfl)
 cases hmb : mayB m
 case false =>
  have hs1 := Lib.hid (show encL m = [] by rw [hR1.out, hmb]; rfl)
  have hs2 := Lib.hid (show encE m = 15 by rw [hR2.out, hmb]; rfl)
  go_wp2_with fail
  refine hK.out _ _ ?_
  clear hK K
  go_wp2
  go_ret2
  exact ⟨ret_si (by rw [hs1.out]) (by rw [hs2.out]), hB2.out⟩
 have hs1 := Lib.hid (show encL m = frameL m.kind.toNat (bodyL m) by rw [hR1.out, hmb]; rfl)
 have hs2 := Lib.hid (show encE m = 0 by rw [hR2.out, hmb]; rfl)
 have hft := may_fits hmb hw
 have hk := (may_parts hmb).1
 have hbl := body_len hm hft
 have cB := fun d os => Calls.regrown_of (body_any m x Nn cp hm hft (grow (redrawn W2 d) os) ((RowB.keep hM2.out ((below_regrown W2 d os).mono (Nat.le_of_lt hz2)) (Nat.le_refl _)).more (Nat.le_trans (Nat.le_of_lt hz2) (below_regrown W2 d os).size)))
 have cF := fun d os => Calls.regrown_of (frame_any m.kind (bodyL m) ⟨by omega, by omega⟩ (by omega) (grow (redrawn W2 d) os))
 have k0 := cell_regrown (hA2.get ms_kind)
 have hld2 := Lib.hid (show ∀ W, (∃ q : Regrown, W = grow (redrawn W2 q.d) q.os) → ∀ j u, (msC m (.slice x Nn cp))[j]? = some u → W.cell? ⟨n, 0 + j, none⟩ = some u by
  rintro W ⟨q, rfl⟩ j u hu
  exact cell_regrown (whole_ms hA2 j u hu) q.d q.os)
 generalize bodyL m = B at *
 generalize frameL m.kind.toNat B = F at *
 clear hk hft hbl hmb hld
 replace hA2 := Lib.hid hA2
 go_wp2_with fail
 refine hK.out _ _ ?_
 clear hK K
 go_upto_region 3 with fail
 refine wp_region_quiet_below (by kernel_rfl) (by kernel_rfl) ?_
 repeat (first | (refine wpQuiet_load_part_w rfl 42 _ rfl n 0 rfl (msC m (.slice x Nn cp)) hld2.out _ Try.underlying42 rfl hsz.out ?_; go_simp) | go_big_quiet_step (first | with_reducible exact cB _ _ | with_reducible exact cF _ _))
 refine wpQuiet_nil ?_
 first | (rintro w2 ⟨⟨d, os⟩, rfl⟩) | (intro pq; obtain ⟨d, os⟩ := pq)
 have hB3 := Lib.hid (hB2.out.trans ((below_regrown W2 d os).mono (Nat.le_of_lt hz2)))
 dsimp only
 generalize grow (redrawn W2 d) os = W3 at hB3 ⊢
 go_wp2
 go_ret2
 exact ⟨ret_si (by rw [hs1.out]) (by rw [hs2.out]), hB3.out⟩
end Go.Proofs.Ytpefdmkfmcjfnaa.Ms
namespace Go.Proofs.Ytpefdmkfmcjfnaa.Mp
open Go.RowKit Go.Sort Go.Proofs.Ytpefdmkfmcjfnaa.Mem Go.Proofs.Ytpefdmkfmcjfnaa.Route Go.Proofs.Ytpefdmkfmcjfnaa.Oct Go.Proofs.Ytpefdmkfmcjfnaa.Ms
set_option linter.unusedVariables false
theorem chain_step {T : Tell} {x : Fld} {l : List Fld} {p q r : List Value × T.S} (h : T.one x p = q) (k : T.chain l q = r) : T.chain (x :: l) p = r := by rw [Tell.chain, h, k]
theorem chain_then {T : Tell} {l m : List Fld} {p q r : List Value × T.S} (h : T.chain l p = q) (k : T.chain m q = r) : T.chain (l ++ m) p = r := by rw [chain_append, h, k]
theorem set_same {α : Type} {l : List α} {i : Nat} {x : α} (h : l[i]? = some x) : l.set i x = l := by
 apply List.ext_getElem?
 intro j
 rw [List.getElem?_set]
 split
 · rename_i e
   subst e
   rw [h, if_pos (List.getElem?_eq_some_iff.1 h).1]
 · rfl
theorem put_ok (s : Bs) (n : Nat) (k : Nat) (h1 : 1 ≤ k) (h8 : k ≤ 8) (hn : n < 2 ^ (8 * k)) : putB s n (k : Int) = s ++ laidL n k := by
 have hw : isW (k : Int) = true := by simp [isW]; omega
 simp [putB, hw, hn]
theorem wr_one (g o : Nat) (kd : Kd) (K : Int) (k : Nat) (hK : K = (k : Int)) (cs : List Value) (n : Int) (hc : cs[o]? = some (kd.cell n)) (h0 : 0 ≤ n) (h1 : 1 ≤ k) (h8 : k ≤ 8) (hn : n < 2 ^ (8 * k)) (h63 : kd = .i → n < 9223372036854775808) (hb : kd = .b → n < 256) (s : Bs) :
 (Wr g).one (o, kd, K) (cs, s) = (cs, s ++ laidL n.toNat k) := by
 subst hK
 obtain ⟨N, rfl⟩ : ∃ N : Nat, n = N := ⟨n.toNat, by omega⟩
 have hN : N < 2 ^ (8 * k) := by
  have : ((N : Nat) : Int) < ((2 ^ (8 * k) : Nat) : Int) := by rw [Int.natCast_pow]; exact hn
  omega
 have h64 : N < 18446744073709551616 := Nat.lt_of_lt_of_le hN (Nat.le_trans (Nat.pow_le_pow_right (by omega) (by omega : 8 * k ≤ 64)) (by decide))
 have hu : toU (N : Int) = N := by rw [toU_nat (by omega) (by omega)]; rfl
 have hat : numAt cs o = N := by
  simp only [numAt, hc]
  cases kd <;> exact hu
 have hbk : kd.back N = (N : Int) := by
  cases kd with
  | i =>
   have := h63 rfl
   show wrap64 (N : Int) = N
   unfold wrap64
   omega
  | u => rfl
  | b =>
   have := hb rfl
   show IntKind.u8.wrap (N : Int) = N
   unfold IntKind.wrap
   exact Int.emod_eq_of_lt (by omega) (by show (N : Int) < 256; omega)
 simp only [Tell.one, hat]
 show (cs.set o (kd.cell (kd.back N)), putB s N (k : Int)) = _
 rw [hbk, set_same hc, put_ok s N k h1 h8 hN]
 rfl
theorem wr_i (g o : Nat) (K : Int) (k : Nat) (hK : K = (k : Int)) (cs : List Value) (n : Int) (hc : cs[o]? = some (.int .i64 n)) (h0 : 0 ≤ n) (h1 : 1 ≤ k) (h8 : k ≤ 4) (hn : n < 2 ^ (8 * k)) (s : Bs) : (Wr g).one (o, Kd.i, K) (cs, s) = (cs, s ++ lay1 n k) := by
 refine wr_one g o Kd.i K k hK cs n hc h0 h1 (by omega) hn (fun _ => ?_) (fun e => by cases e) s
 have h1 : 2 ^ (8 * k) ≤ 2 ^ 32 := Nat.pow_le_pow_right (by decide) (by omega)
 have h2 : ((2 ^ (8 * k) : Nat) : Int) = (2 : Int) ^ (8 * k) := by rw [Int.natCast_pow]; rfl
 omega
theorem wr_u (g o : Nat) (cs : List Value) (n : Nat) (hc : cs[o]? = some (.int .u64 (n : Int))) (hn : n < 18446744073709551616) (s : Bs) : (Wr g).one (o, Kd.u, 8) (cs, s) = (cs, s ++ laidL n 8) := by
 have := wr_one g o Kd.u 8 8 rfl cs (n : Int) hc (by omega) (by omega) (by omega) (by show (n : Int) < 18446744073709551616; omega) (fun e => by cases e) (fun e => by cases e) s
 rwa [Int.toNat_natCast] at this
theorem laid_byte (b : UInt8) : laidL b.toNat 1 = [b] := by
 simp [laidL]
theorem wr_b (g o : Nat) (cs : List Value) (b : UInt8) (hc : cs[o]? = some (u8V b)) (s : Bs) : (Wr g).one (o, Kd.b, 1) (cs, s) = (cs, s ++ [b]) := by
 have hb := b.toNat_lt
 have := wr_one g o Kd.b 1 1 rfl cs (b.toNat : Int) hc (by omega) (by omega) (by omega) (by show (b.toNat : Int) < 256; omega) (fun e => by cases e) (fun _ => by omega) s
 rwa [Int.toNat_natCast, laid_byte] at this
theorem wr_digP (g o : Nat) (cs : List Value) (d : Bs) (hd : d.length = 32) (hc : ∀ j b, d[j]? = some b → cs[o + j]? = some (u8V b)) (s : Bs) : ∀ i, i ≤ 32 → (Wr g).chain ((digF o).take i) (cs, s) = (cs, s ++ d.take i) := by
 intro i
 induction i with
 | zero => intro _; simp [Tell.chain]; rfl
 | succ i ih =>
  intro hi
  obtain ⟨b, hb⟩ : ∃ b, d[i]? = some b := ⟨_, List.getElem?_eq_getElem (by omega)⟩
  rw [take_next (digF_get (by omega)), take_next hb]
  refine chain_then (ih (by omega)) (chain_step (wr_b g (o + i) cs b (hc i b hb) _) ?_)
  exact congrArg (Prod.mk cs) (List.append_assoc s (d.take i) [b])
theorem wr_dig (g o : Nat) (cs : List Value) (d : Bs) (hd : d.length = 32) (hc : ∀ j b, d[j]? = some b → cs[o + j]? = some (u8V b)) (s : Bs) : (Wr g).chain (digF o) (cs, s) = (cs, s ++ d) := by
 have := wr_digP g o cs d hd hc s 32 (by omega)
 rwa [List.take_of_length_le (by rw [digF_len]; omega), List.take_of_length_le (by omega)] at this
theorem wr_marks (g : Nat) (l : List Mk) (h32 : ∀ p ∈ l, p.2.length = 32) (hf : ∀ p ∈ l, 0 ≤ p.1 ∧ p.1 < 256) (s : Bs) : ∀ i, i ≤ l.length → (Wr g).chain (marksF i) (marksC l, s) = (marksC l, s ++ marksL (l.take i)) := by
 intro i
 induction i with
 | zero => intro _; simp [Tell.chain, marksF, marksL]; rfl
 | succ i ih =>
  intro hi
  obtain ⟨p, hp⟩ : ∃ p, l[i]? = some p := ⟨_, List.getElem?_eq_getElem (by omega)⟩
  have h1 := h32 p (List.mem_of_getElem? hp)
  have h2 := hf p (List.mem_of_getElem? hp)
  rw [marksF_next, take_next hp, marksL_snoc]
  have hc := marksC_get h32 (j := 0) (x := .int .i64 p.1) hp rfl
  have h3 := wr_i g (i * 33) 1 1 rfl (marksC l) p.1 hc h2.1 (by omega) (by omega) (by show p.1 < 256; exact h2.2)
  have h4 := wr_dig g (i * 33 + 1) (marksC l) p.2 h1 (fun j b hb => by
   have := marksC_get h32 (j := j + 1) (x := u8V b) hp (by simp [markC, hb])
   rw [show i * 33 + 1 + j = i * 33 + (j + 1) by omega]
   exact this)
  refine chain_then (ih (by omega)) (chain_step (h3 _) ((h4 _).trans ?_))
  refine congrArg (Prod.mk (marksC l)) ?_
  show (s ++ marksL (l.take i) ++ lay1 p.1 1 ++ p.2 : Bs) = s ++ (marksL (l.take i) ++ markL p)
  simp [markL]
theorem rq_bounds {r : Rq} (h : chkR r = 0) : (0 ≤ r.fx ∧ r.fx < 65536) ∧ (0 ≤ r.fy ∧ r.fy < 65536) ∧ (0 ≤ r.tx ∧ r.tx < 65536) ∧ (0 ≤ r.ty ∧ r.ty < 65536) ∧ (0 ≤ r.pe ∧ r.pe < 4294967296) ∧ (0 ≤ r.pl ∧ r.pl < 4294967296) ∧ (0 ≤ r.de ∧ r.de < 4294967296) ∧ (0 ≤ r.dl ∧ r.dl < 4294967296) ∧ (0 ≤ r.ld ∧ r.ld < 65536) ∧ (0 ≤ r.sv ∧ r.sv < 65536) := by
 rw [chkR, Order.chk_iff, Place.mayB_iff, Place.mayB_iff, Window.okB_iff, Window.okB_iff] at h
 omega
theorem wr_rnd (g : Nat) {m : Ms} {v : Value} (h : mayB m = true) (s : Bs) : (Wr g).one (1, Kd.i, 1) (msC m v, s) = (msC m v, s ++ lay1 m.rnd 1) := by
 obtain ⟨h1, -, -⟩ := may_parts h
 exact wr_i g 1 1 1 rfl _ m.rnd rfl (by omega) (by omega) (by omega) (by show m.rnd < 256; omega) s
theorem wr_flat (g : Nat) {m : Ms} {v : Value} (hm : m.ok) (hw : m.wide) (h : mayB m = true) (h3 : m.kind ≠ 3) (h5 : m.kind ≠ 5) : (Wr g).chain ([(1, Kd.i, 1)] ++ walkF m.kind) (msC m v, ([] : Bs)) = (msC m v, bodyL m) := by
 have hr := wr_rnd g (v := v) h
 obtain ⟨hh, -, hk⟩ := may_parts h
 unfold kindB at hk
 refine chain_step (hr []) ?_
 unfold walkF bodyL partL
 by_cases e1 : m.kind = 1
 · rw [if_pos e1, decide_eq_true_eq] at hk
   obtain ⟨i1, i2, i3, i4, i5⟩ := hk
   obtain ⟨b0, b1, b2, b3, b4, b5, b6, b7, b8, b9⟩ := rq_bounds i5
   rw [if_pos e1, if_pos e1]
   refine chain_step (wr_i g 3 1 1 rfl _ m.req rfl (by omega) (by omega) (by omega) (by show m.req < 256; omega) _) ?_
   refine chain_step (wr_i g 4 4 4 rfl _ m.rsv rfl (by omega) (by omega) (by omega) (by show m.rsv < 4294967296; omega) _) ?_
   refine chain_step (wr_i g 5 2 2 rfl _ m.rq.fx rfl b0.1 (by omega) (by omega) b0.2 _) ?_
   refine chain_step (wr_i g 6 2 2 rfl _ m.rq.fy rfl b1.1 (by omega) (by omega) b1.2 _) ?_
   refine chain_step (wr_i g 7 2 2 rfl _ m.rq.tx rfl b2.1 (by omega) (by omega) b2.2 _) ?_
   refine chain_step (wr_i g 8 2 2 rfl _ m.rq.ty rfl b3.1 (by omega) (by omega) b3.2 _) ?_
   refine chain_step (wr_i g 9 4 4 rfl _ m.rq.pe rfl b4.1 (by omega) (by omega) b4.2 _) ?_
   refine chain_step (wr_i g 10 4 4 rfl _ m.rq.pl rfl b5.1 (by omega) (by omega) b5.2 _) ?_
   refine chain_step (wr_i g 11 4 4 rfl _ m.rq.de rfl b6.1 (by omega) (by omega) b6.2 _) ?_
   refine chain_step (wr_i g 12 4 4 rfl _ m.rq.dl rfl b7.1 (by omega) (by omega) b7.2 _) ?_
   refine chain_step (wr_i g 13 2 2 rfl _ m.rq.ld rfl b8.1 (by omega) (by omega) b8.2 _) ?_
   refine chain_step (wr_i g 14 2 2 rfl _ m.rq.sv rfl b9.1 (by omega) (by omega) b9.2 _) ?_
   refine congrArg (Prod.mk (msC m v)) ?_
   simp [rqL]
 by_cases e2 : m.kind = 2
 · rw [if_neg e1, if_pos e2, carB_iff] at hk
   rw [if_neg e1, if_pos e2, if_neg e1, if_pos e2]
   refine chain_step (wr_i g 2 1 1 rfl _ m.car rfl (by omega) (by omega) (by omega) (by show m.car < 256; omega) _) ?_
   refine (wr_dig g 15 _ m.dig hm.dig (fun j b hb => ms_dig (by rw [List.getElem?_map, hb]; rfl)) _).trans ?_
   refine congrArg (Prod.mk (msC m v)) ?_
   simp
 by_cases e4 : m.kind = 4
 · rw [if_neg e1, if_neg e2, if_pos e4, Bool.and_eq_true, carB_iff] at hk
   rw [if_neg e1, if_neg e2, if_pos e4, if_neg e1, if_neg e2, if_pos e4]
   refine chain_step (wr_i g 2 1 1 rfl _ m.car rfl (by omega) (by omega) (by omega) (by show m.car < 256; omega) _) ?_
   refine chain_step (wr_u g 48 _ m.bid (ms_bid hm.dig) hw.bid _) (chain_step (wr_u g 49 _ m.nonce (ms_nonce hm.dig) hw.nonce _) ?_)
   refine congrArg (Prod.mk (msC m v)) ?_
   simp
 · omega
theorem out_of {T : Tell} {o : Nat} {p0 p a c r : List Value × T.S} {x : Fld} {b : List Value × T.S} (hp : T.one x p0 = p) (ha : T.one (o, Kd.i, 1) p = a) (hb : T.one (0, Kd.i, 1) ([.int .i64 (wrap64 (winAt p.1 (o + 1) + 1))], a.2) = b) (hc : T.one (o + 2, Kd.u, 8) (a.1, b.2) = c)
 (h1 : c.1.set (o + 1) (.int .i64 (wrap64 (winAt b.1 0 - 1))) = r.1) (h2 : c.2 = r.2) : outS T o (T.one x p0) = r := by
 obtain ⟨r1, r2⟩ := r
 simp only at h1 h2
 simp only [outS]
 rw [hp, ha, hb, hc, h1, h2]
theorem wr_out (g : Nat) {m : Ms} {v : Value} (hm : m.ok) (hw : m.wide) (h : mayB m = true) (h5 : m.kind = 5) : outS (Wr g) 50 ((Wr g).one (1, Kd.i, 1) (msC m v, ([] : Bs))) = (msC m v, bodyL m) := by
 have hr := wr_rnd g (v := v) h []
 obtain ⟨hh, -, hk⟩ := may_parts h
 unfold kindB at hk
 rw [if_neg (by omega), if_neg (by omega), if_neg (by omega), if_pos h5] at hk
 have ho : (0 ≤ m.oc.st ∧ m.oc.st < 256) ∧ (0 ≤ m.oc.wn + 1 ∧ m.oc.wn + 1 < 256) := by
  unfold ocB at hk
  split at hk
  · rw [decide_eq_true_eq] at hk; omega
  · rw [decide_eq_true_eq] at hk; omega
 have hwin : winAt (msC m v) 51 = m.oc.wn := by simp only [winAt, ms_wn hm.dig]
 have hwr : wrap64 (m.oc.wn + 1) = m.oc.wn + 1 := by unfold wrap64; omega
 have hwr2 : wrap64 (m.oc.wn + 1 - 1) = m.oc.wn := by unfold wrap64; omega
 have ha := wr_i g 50 1 1 rfl _ m.oc.st (ms_st (v := v) hm.dig) ho.1.1 (by omega) (by omega) ho.1.2 (lay1 m.rnd 1)
 have hb := wr_i g 0 1 1 rfl [.int .i64 (m.oc.wn + 1)] (m.oc.wn + 1) rfl ho.2.1 (by omega) (by omega) ho.2.2 (lay1 m.rnd 1 ++ lay1 m.oc.st 1)
 have hc := wr_u g 52 _ m.oc.pr (ms_pr (v := v) hm.dig) hw.pr (lay1 m.rnd 1 ++ lay1 m.oc.st 1 ++ lay1 (m.oc.wn + 1) 1)
 have hb' : (Wr g).one (0, Kd.i, 1) ([.int .i64 (wrap64 (winAt (msC m v) 51 + 1))], (lay1 m.rnd 1 ++ lay1 m.oc.st 1 : Bs)) = ([.int .i64 (m.oc.wn + 1)], (lay1 m.rnd 1 ++ lay1 m.oc.st 1 ++ lay1 (m.oc.wn + 1) 1 : Bs)) := by rw [hwin, hwr]; exact hb
 refine out_of hr ha hb' hc ?_ ?_
 · show (msC m v).set 51 (.int .i64 (wrap64 (m.oc.wn + 1 - 1))) = _
   rw [hwr2]
   exact set_same (ms_wn hm.dig)
 · show (lay1 m.rnd 1 ++ lay1 m.oc.st 1 ++ lay1 (m.oc.wn + 1) 1 ++ laidL m.oc.pr 8 : Bs) = bodyL m
   simp [bodyL, partL, h5]
theorem wr_mark (g : Nat) {m : Ms} {v : Value} (hm : m.ok) (h : mayB m = true) (h3 : m.kind = 3) :
 (Wr g).one (1, Kd.i, 1) (msC m v, ([] : Bs)) = (msC m v, lay1 m.rnd 1) ∧ (Wr g).step (lay1 m.rnd 1) (toU (m.marks.length : Int)) 1 = (m.marks.length, lay1 m.rnd 1 ++ laidL m.marks.length 1) ∧
 (Wr g).chain (marksF m.marks.length) (marksC m.marks, lay1 m.rnd 1 ++ laidL m.marks.length 1) = (marksC m.marks, bodyL m) ∧ m.marks.length ≤ 8 := by
 have hr := wr_rnd g (v := v) h []
 obtain ⟨hh, -, hk⟩ := may_parts h
 unfold kindB at hk
 rw [if_neg (by omega), if_neg (by omega), if_neg (by omega), if_neg (by omega)] at hk
 have hl := up_len hk
 have hu : toU (m.marks.length : Int) = m.marks.length := by rw [toU_nat (by omega) (by omega)]; rfl
 refine ⟨hr, ?_, ?_, hl⟩
 · show (toU (m.marks.length : Int), putB (lay1 m.rnd 1) (toU (m.marks.length : Int)) 1) = _
   rw [hu, show (1 : Int) = ((1 : Nat) : Int) from rfl, put_ok _ _ 1 (by omega) (by omega) (by show m.marks.length < 256; omega)]
 · rw [wr_marks g m.marks hm.marks (fun p hp => by
    obtain ⟨i, hi⟩ := List.mem_iff_getElem?.1 hp
    have := up_ge hk i p hi
    omega) _ _ (Nat.le_refl _), List.take_length]
   have hF : bodyL m = lay1 m.rnd 1 ++ (laidL m.marks.length 1 ++ marksL m.marks) := by simp [bodyL, partL, h3]
   rw [hF, List.append_assoc]
end Go.Proofs.Ytpefdmkfmcjfnaa.Mp

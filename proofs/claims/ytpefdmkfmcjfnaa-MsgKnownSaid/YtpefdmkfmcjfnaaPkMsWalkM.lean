import Derived.Test.YtpefdmkfmcjfnaaPkMsMarks

namespace Go.Proofs.Ytpefdmkfmcjfnaa.Mp
open Go.RowKit Go.Sort Go.Proofs.Ytpefdmkfmcjfnaa.Mem Go.Proofs.Ytpefdmkfmcjfnaa.Route Go.Proofs.Ytpefdmkfmcjfnaa.Oct Go.Proofs.Ytpefdmkfmcjfnaa.Ms
set_option linter.unusedVariables false
theorem Two.below {a b B : Nat} {w v : World} (h : Two a b w v) (ha : B ≤ a) (hb : B ≤ b) (hw : B ≤ w.heap.size) : Below B w v := ⟨h.os, h.tape, h.output, h.size, fun k hk => h.block k (by omega) (by omega) (by omega)⟩
theorem Two.grown {a b n : Nat} {w v : World} (h : Two a b w v) (hn : n = w.heap.size) (hb : n ≤ b) : w.grownBy v (some a) := ⟨h.os, h.tape, h.output, h.size, fun k hk ha => h.block k hk (by simpa using ha) (by omega)⟩
theorem grown_of_below {a : Nat} {w v : World} (h : Below w.heap.size w v) : w.grownBy v (some a) := ⟨h.os, h.tape, h.output, h.size, fun k hk _ => h.block k hk⟩
theorem Two.grown' {a b n : Nat} {u w v : World} (h : Two a b w v) (hn : u.heap.size = n) (hb : n ≤ b) (hu : u.grownBy w (some a)) : u.grownBy v (some a) :=
 ⟨h.os.trans hu.os, h.tape.trans hu.tape, h.output.trans hu.output, Nat.le_trans hu.size h.size, fun k hk ha => (h.block k (Nat.lt_of_lt_of_le hk hu.size) (by simpa using ha) (by omega)).trans (hu.block k hk ha)⟩
def MarksTold (T : Tell) (b C : Nat) (L : List Mk) (s : T.S) (w : World) (u : Value) (w' : World) : Prop :=
 (C = 0 → u = .slice none 0 0) ∧ (0 < C → ∃ q, u = .slice (some ⟨q, 0, none⟩) C C ∧ w.heap.size ≤ q ∧ AtL w' q 65 (T.chain (marksF C) (marksC L, s)).1) ∧ T.At b (T.chain (marksF C) (marksC L, s)).2 w' ∧ w.grownBy w' (some T.own)
set_option maxRecDepth 100000 in
set_option maxHeartbeats 16000000 in
theorem walkMarks_any (T : Tell) (hT : T.fits) (b C B : Nat) (x : Option Addr) (N cap : Nat) (l : List Mk) (s : T.S) (w : World) (h : T.At (b + 264 * C + 8) s w) (hC : (T.step s (toU (N : Int)) 1).1 = C) (hC1 : C ≤ 1000) (h32 : ∀ p ∈ l, p.2.length = 32)
 (hv : (l = [] ∧ Value.slice x N cap = .slice none 0 0) ∨ l.length = C) (hm : MarksAt B w (.slice x N cap) l) (hB : B ≤ T.own) (hBw : B ≤ w.heap.size) :
 Calls Try.prog 41 #[T.tv, .slice x N cap] w fun e w' => ∃ u, e = .returned u ∧ MarksTold T b C (startM l C) (T.step s (toU (N : Int)) 1).2 w u w' := by
 have hNl := marks_len hm
 have hNm := marks_max hm
 obtain ⟨q, hq⟩ : ∃ q, w.heap.size = q := ⟨_, rfl⟩
 have hoi := T.inside h
 have hN := At.new w 3 #[.int .i64 (N : Int)]
 have hBl : Below w.heap.size w (w.alloc (.cells #[.int .i64 (N : Int)] 3)) := (Below.refl _ _).alloc (Nat.le_refl _) _
 obtain ⟨S1, hS1⟩ : ∃ S1, (T.step s (toU (N : Int)) 1).2 = S1 := ⟨_, rfl⟩
 obtain ⟨tv, htv⟩ : ∃ tv, T.tv = tv := ⟨_, rfl⟩
 obtain ⟨ow, how⟩ : ∃ ow, T.own = ow := ⟨_, rfl⟩
 obtain ⟨L, hLe⟩ : ∃ L, startM l C = L := ⟨_, rfl⟩
 rw [htv, hS1, hLe]
 replace hLe := Lib.hid hLe
 rw [how] at hoi hB
 replace how := Lib.hid how
 go_enter Try.func41, Try.ntmps41
 go_upto_region 2 with fail
 rw [hq] at hN hBl hoi hBw
 try simp only [hq]
 generalize w.alloc (.cells #[.int .i64 (N : Int)] 3) = W at hN hBl ⊢
 have hqo : q ≠ ow := by omega
 have hA1 := T.keep h (hBl.block _ (by rw [how.out]; exact hoi))
 have gW : w.grownBy W (some T.own) := grown_of_below (by rw [hq]; exact hBl)
 have hmW := hm.keep hBl hBw
 have hqW : q < W.heap.size := At.inside hN
 replace hq := Lib.hid hq
 clear h hBl
 have f1 := T.field (0, Kd.i, 1) (b + 264 * C) q 3 ([.int .i64 (N : Int)], s) W hA1 hN ⟨_, rfl, fun e => by cases e⟩ (by rw [how.out]; exact hqo)
 have hone : T.chain [(0, Kd.i, 1)] ([Value.int .i64 (N : Int)], s) = ([Value.int .i64 (C : Int)], S1) := by
  have hn0 : numAt [Value.int .i64 (N : Int)] 0 = toU (N : Int) := rfl
  simp only [Tell.chain, Tell.one, hn0, hS1, hC, Kd.back, Kd.cell, List.set_cons_zero]
  rw [show wrap64 (C : Int) = C from by unfold wrap64; omega]
 rw [htv] at f1
 replace f1 := Lib.hid f1
 replace hone := Lib.hid hone
 clear hA1 hN hS1 hC
 go_wp2_with fail
 refine f1.out.mono ?_
 rintro e w1 ⟨rfl, d1⟩
 have hQ := d1.cs
 have hT1 := d1.st
 rw [hone.out] at hQ hT1
 have hm1 := hmW.keep (d1.two.below (B := B) (by rw [how.out]; exact hB) hBw (by omega)) (Nat.le_refl _)
 have g1 : w.grownBy w1 (some T.own) := d1.two.grown' hq.out (Nat.le_refl _) gW
 have hz1 : q < w1.heap.size := Nat.lt_of_lt_of_le hqW d1.two.size
 have c1 := hQ.cell 0
 simp at c1
 clear f1 d1 hm hmW gW hqW hQ hone
 replace hT1 := Lib.hid hT1
 replace hm1 := Lib.hid hm1
 replace g1 := Lib.hid g1
 by_cases hC0 : C = 0
 · subst hC0
   simp only [show ((0 : Nat) : Int) = 0 from rfl] at c1
   go_wp2
   go_ret
   exact ⟨_, rfl, fun _ => rfl, fun h => absurd h (by omega), hT1.out, g1.out⟩
 · have hC2 : ((C : Int) == 0) = false := by rw [beq_eq_false_iff_ne]; omega
   have hC3 : (C : Int) ≤ 1000 := by omega
   have hmk := make_marks C (by omega) w1
   have hA2 := AtL.new w1 65 (marksC (List.replicate C zM))
   have hB2 : Below w1.heap.size w1 (w1.alloc (.cells (marksC (List.replicate C zM)).toArray 65)) := (Below.refl _ _).alloc (Nat.le_refl _) _
   obtain ⟨r, hr⟩ : ∃ r, w1.heap.size = r := ⟨_, rfl⟩
   rw [hr] at hA2 hB2 hmk hz1
   generalize w1.alloc (.cells (marksC (List.replicate C zM)).toArray 65) = w2 at hmk hA2 hB2
   have hm2 := hm1.out.keep hB2 (by omega)
   obtain ⟨k, w3, hcp, hA3, e1, e2, e3, e4, e5⟩ := copy_marks C (.slice x N cap) l B r w2 h32 hv hm2 hA2 (by omega) (by omega)
   have hro : r ≠ ow := by omega
   have hT3 : T.At (b + 264 * C) S1 w3 := T.keep (T.keep hT1.out (hB2.block _ (by rw [how.out]; omega))) (e5 _ (by rw [how.out]; omega))
   have g3 : w.grownBy w3 (some T.own) := by
    have h1 := g1.out
    exact ⟨(e1.trans hB2.os).trans h1.os, (e2.trans hB2.tape).trans h1.tape, (e3.trans hB2.output).trans h1.output, Nat.le_trans h1.size (by have := hB2.size; omega), fun j hj ha => (e5 j (by have := hq.out; omega)).trans ((hB2.block j (by have := hq.out; omega)).trans (h1.block j hj ha))⟩
   have hz3 : r < w3.heap.size := hA3.inside
   replace hA3 := Lib.hid hA3
   replace hT3 := Lib.hid hT3
   replace g3 := Lib.hid g3
   replace hm1 := hm1.out
   replace hr := Lib.hid hr
   have hL := start_len (C := C) (l := l) (by rcases hv with ⟨rfl, -⟩ | h; exact Nat.zero_le _; omega)
   have hLo := start_ok (C := C) h32
   rw [hLe.out] at hL hLo hA3
   have hty := typed_marks hLo
   rw [hL] at hty
   replace hty := Lib.hid hty
   clear hA2 hB2 hm2 e1 e2 e3 e4 e5 hLe hLo hL hm1 hT1 g1 hv h32
   go_upto_region 7 with (at_builtin; refine Lib.wpList_copy_run _ rfl _ _ _ _ rfl _ _ rfl rfl hcp ?_)
   clear hcp hmk c1
   have hrq : q ≤ r := by omega
   have hD0 : Hid (Does T r 65 (b + 264 * (C - 0)) (marksF 0) (marksC L, S1) w3 w3) := Lib.hid (Does.nil hT3.out hA3.out)
   have hrq2 := Lib.hid hrq
   clear hA3 hT3 hz1 hz3 hrq hB hBw hoi hqo
   go_wp2_with fail
   go_loopw [21] (fun c wr => ∃ i : Nat, c = .int .i64 (i : Int) ∧ i ≤ C ∧ Hid (Does T r 65 (b + 264 * (C - i)) (marksF i) (marksC L, S1) w3 wr))
    (fun c _ => C - (RowKit.intOf c).toNat)
   case atStart => exact ⟨0, rfl, by omega, hD0⟩
   case round =>
    obtain ⟨wi, hwi⟩ : ∃ wi, wi = wr := ⟨_, rfl⟩
    subst hwi
    obtain ⟨i, rfl, hi, hD⟩ := hrel
    clear hD0
    by_cases hlt : i < C
    case neg =>
     obtain rfl : C = i := by omega
     have hD2 := hD.out
     rw [Nat.sub_self] at hD2
     have hg : w.grownBy wi (some T.own) := Two.grown' hD2.two hq.out hrq2.out g3.out
     have hres : MarksTold T b C L S1 w (.slice (some ⟨r, 0, none⟩) C C) wi := ⟨fun h => absurd h hC0, fun _ => ⟨r, rfl, by rw [hq.out]; exact hrq2.out, hD2.cs⟩, hD2.st, hg⟩
     replace hres := Lib.hid hres
     clear hD hD2 hg g3 hlt
     go_wp2_with fail
     go_ret
     exact ⟨_, rfl, hres.out⟩
    have hlt' : (i : Int) < (C : Int) := by omega
    have tA : Typed (marksF i) (marksC L) := hty.out.some_marks hi
    have tB : Typed (markF i) (T.chain (marksF i) (marksC L, S1)).1 := Typed.chain hT tA (hty.out.mark hlt)
    have f1 := T.field (i * 33, Kd.i, 1) (b + 264 * (C - (i + 1)) + 8 * 32) r 65 (T.chain (marksF i) (marksC L, S1)) wi (T.less hD.out.st (by omega)) hD.out.cs (tB _ List.mem_cons_self) (by rw [how.out]; exact hro)
    rw [htv] at f1
    replace f1 := Lib.hid f1
    replace tB := Lib.hid tB
    have hltH := Lib.hid hlt
    clear hlt tA
    go_wp2_with fail
    refine f1.out.mono ?_
    rintro e w4 ⟨rfl, d1⟩
    have f2 := walkDigest_any T hT r (i * 33 + 1) (b + 264 * (C - (i + 1))) 65 _ w4 d1.st d1.cs (Typed.chain hT (l := [(i * 33, Kd.i, 1)]) (fun y hy => tB.out y (by rw [List.mem_singleton] at hy; subst hy; exact List.mem_cons_self)) (fun y hy => tB.out y (List.mem_cons_of_mem _ hy))) (by rw [how.out]; exact hro)
    rw [htv] at f2
    replace f2 := Lib.hid f2
    replace d1 := Lib.hid d1
    clear f1
    go_wp2_with fail
    refine f2.out.mono ?_
    rintro e w5 ⟨rfl, d2⟩
    have d3 := d1.out.trans d2
    have d4 := hD.out.trans d3
    rw [show [((i * 33, Kd.i, 1) : Fld)] ++ digF (i * 33 + 1) = markF i from rfl, ← marksF_next] at d4
    replace d4 := Lib.hid d4
    clear f2 d1 d2 d3 hD
    go_wp2_with fail
    go_roundw
    case rel => exact ⟨i + 1, by go_num, by have := hltH.out; omega, d4⟩
    case measure => have := hltH.out; simp [RowKit.intOf]; omega
end Go.Proofs.Ytpefdmkfmcjfnaa.Mp

import Derived.Test.YtpefdmkfmcjfnaaPkMsMarks
import Derived.Test.YtpefdmkfmcjfnaaPkMsWalkR

namespace Go.Proofs.Ytpefdmkfmcjfnaa.Mp
open Go.RowKit Go.Sort Go.Proofs.Ytpefdmkfmcjfnaa.Mem Go.Proofs.Ytpefdmkfmcjfnaa.Route Go.Proofs.Ytpefdmkfmcjfnaa.Oct Go.Proofs.Ytpefdmkfmcjfnaa.Ms
set_option linter.unusedVariables false
theorem Two.below {a b B : Nat} {w v : World} (h : Two a b w v) (ha : B ≤ a) (hb : B ≤ b) (hw : B ≤ w.heap.size) : Below B w v := ⟨h.os, h.tape, h.output, h.size, fun k hk => h.block k (by omega) (by omega) (by omega)⟩
theorem Two.grown {a b n : Nat} {w v : World} (h : Two a b w v) (hn : n = w.heap.size) (hb : n ≤ b) : w.grownBy v (some a) := ⟨h.os, h.tape, h.output, h.size, fun k hk ha => h.block k hk (by simpa using ha) (by omega)⟩
theorem grown_of_below {a : Nat} {w v : World} (h : Below w.heap.size w v) : w.grownBy v (some a) := ⟨h.os, h.tape, h.output, h.size, fun k hk _ => h.block k hk⟩
theorem Two.grown' {a b n : Nat} {u w v : World} (h : Two a b w v) (hn : u.heap.size = n) (hb : n ≤ b) (hu : u.grownBy w (some a)) : u.grownBy v (some a) :=
 ⟨h.os.trans hu.os, h.tape.trans hu.tape, h.output.trans hu.output, Nat.le_trans hu.size h.size, fun k hk ha => (h.block k (Nat.lt_of_lt_of_le hk hu.size) (by simpa using ha) (by omega)).trans (hu.block k hk ha)⟩
def MarksTold (T : Tell) (b C : Nat) (L : List Mk) (s : T.S) (w : World) (u : Value) (w' : World) : Prop :=
 (C = 0 → u = .slice none 0 0) ∧ (0 < C → ∃ q, u = .slice (some ⟨q, 0, none⟩) C C ∧ w.heap.size ≤ q ∧ AtL w' q 65 (T.chain (marksF C) (marksC L, s)).1) ∧ T.At b (T.chain (marksF C) (marksC L, s)).2 w' ∧ w.grownBy w' (some T.own)
set_option maxRecDepth 100000 in
set_option maxHeartbeats 16000000 in
theorem walkMarks_any (T : Tell) (hT : T.fits) (b C B : Nat) (x : Option Addr) (N cap : Nat) (l : List Mk) (s : T.S) (w : World) (h : T.At (b + 264 * C + 8) s w) (hC : (T.step s (toU (N : Int)) 1).1 = C) (hC1 : C ≤ 1000) (h32 : ∀ p ∈ l, p.2.length = 32)
 (hv : (l = [] ∧ Value.slice x N cap = .slice none 0 0) ∨ l.length = C) (hm : MarksAt B w (.slice x N cap) l) (hB : B ≤ T.own) (hBw : B ≤ w.heap.size) :
 Calls Try.prog 41 #[T.tv, .slice x N cap] w fun e w' => ∃ u, e = .returned u ∧ MarksTold T b C (startM l C) (T.step s (toU (N : Int)) 1).2 w u w' := by
 have hNl := marks_len hm
 have hNm := marks_max hm
 obtain ⟨q, hq⟩ : ∃ q, w.heap.size = q := ⟨_, rfl⟩
 have hoi := T.inside h
 have hN := At.new w 3 #[.int .i64 (N : Int)]
 have hBl : Below w.heap.size w (w.alloc (.cells #[.int .i64 (N : Int)] 3)) := (Below.refl _ _).alloc (Nat.le_refl _) _
 obtain ⟨S1, hS1⟩ : ∃ S1, (T.step s (toU (N : Int)) 1).2 = S1 := ⟨_, rfl⟩
 obtain ⟨tv, htv⟩ : ∃ tv, T.tv = tv := ⟨_, rfl⟩
 obtain ⟨ow, how⟩ : ∃ ow, T.own = ow := ⟨_, rfl⟩
 obtain ⟨L, hLe⟩ : ∃ L, startM l C = L := ⟨_, rfl⟩
 rw [htv, hS1, hLe]
 replace hLe := Lib.hid hLe
 rw [how] at hoi hB
 replace how := Lib.hid how
 go_enter Try.func41, Try.ntmps41
 go_upto_region 2 with fail
 rw [hq] at hN hBl hoi hBw
 try simp only [hq]
 generalize w.alloc (.cells #[.int .i64 (N : Int)] 3) = W at hN hBl ⊢
 have hqo : q ≠ ow := by omega
 have hA1 := T.keep h (hBl.block _ (by rw [how.out]; exact hoi))
 have gW : w.grownBy W (some T.own) := grown_of_below (by rw [hq]; exact hBl)
 have hmW := hm.keep hBl hBw
 have hqW : q < W.heap.size := At.inside hN
 replace hq := Lib.hid hq
 clear h hBl
 have f1 := T.field (0, Kd.i, 1) (b + 264 * C) q 3 ([.int .i64 (N : Int)], s) W hA1 hN ⟨_, rfl, fun e => by cases e⟩ (by rw [how.out]; exact hqo)
 have hone : T.chain [(0, Kd.i, 1)] ([Value.int .i64 (N : Int)], s) = ([Value.int .i64 (C : Int)], S1) := by
  have hn0 : numAt [Value.int .i64 (N : Int)] 0 = toU (N : Int) := rfl
  simp only [Tell.chain, Tell.one, hn0, hS1, hC, Kd.back, Kd.cell, List.set_cons_zero]
  rw [show wrap64 (C : Int) = C from by unfold wrap64; omega]
 rw [htv] at f1
 replace f1 := Lib.hid f1
 replace hone := Lib.hid hone
 clear hA1 hN hS1 hC
 go_wp2_with fail
 refine f1.out.mono ?_
 rintro e w1 ⟨rfl, d1⟩
 have hQ := d1.cs
 have hT1 := d1.st
 rw [hone.out] at hQ hT1
 have hm1 := hmW.keep (d1.two.below (B := B) (by rw [how.out]; exact hB) hBw (by omega)) (Nat.le_refl _)
 have g1 : w.grownBy w1 (some T.own) := d1.two.grown' hq.out (Nat.le_refl _) gW
 have hz1 : q < w1.heap.size := Nat.lt_of_lt_of_le hqW d1.two.size
 have c1 := hQ.cell 0
 simp at c1
 clear f1 d1 hm hmW gW hqW hQ hone
 replace hT1 := Lib.hid hT1
 replace hm1 := Lib.hid hm1
 replace g1 := Lib.hid g1
 by_cases hC0 : C = 0
 · subst hC0
   simp only [show ((0 : Nat) : Int) = 0 from rfl] at c1
   go_wp2
   go_ret
   exact ⟨_, rfl, fun _ => rfl, fun h => absurd h (by omega), hT1.out, g1.out⟩
 · have hC2 : ((C : Int) == 0) = false := by rw [beq_eq_false_iff_ne]; omega
   have hC3 : (C : Int) ≤ 1000 := by omega
   have hmk := make_marks C (by omega) w1
   have hA2 := AtL.new w1 65 (marksC (List.replicate C zM))
   have hB2 : Below w1.heap.size w1 (w1.alloc (.cells (marksC (List.replicate C zM)).toArray 65)) := (Below.refl _ _).alloc (Nat.le_refl _) _
   obtain ⟨r, hr⟩ : ∃ r, w1.heap.size = r := ⟨_, rfl⟩
   rw [hr] at hA2 hB2 hmk hz1
   generalize w1.alloc (.cells (marksC (List.replicate C zM)).toArray 65) = w2 at hmk hA2 hB2
   have hm2 := hm1.out.keep hB2 (by omega)
   obtain ⟨k, w3, hcp, hA3, e1, e2, e3, e4, e5⟩ := copy_marks C (.slice x N cap) l B r w2 h32 hv hm2 hA2 (by omega) (by omega)
   have hro : r ≠ ow := by omega
   have hT3 : T.At (b + 264 * C) S1 w3 := T.keep (T.keep hT1.out (hB2.block _ (by rw [how.out]; omega))) (e5 _ (by rw [how.out]; omega))
   have g3 : w.grownBy w3 (some T.own) := by
    have h1 := g1.out
    exact ⟨(e1.trans hB2.os).trans h1.os, (e2.trans hB2.tape).trans h1.tape, (e3.trans hB2.output).trans h1.output, Nat.le_trans h1.size (by have := hB2.size; omega), fun j hj ha => (e5 j (by have := hq.out; omega)).trans ((hB2.block j (by have := hq.out; omega)).trans (h1.block j hj ha))⟩
   have hz3 : r < w3.heap.size := hA3.inside
   replace hA3 := Lib.hid hA3
   replace hT3 := Lib.hid hT3
   replace g3 := Lib.hid g3
   replace hm1 := hm1.out
   replace hr := Lib.hid hr
   have hL := start_len (C := C) (l := l) (by rcases hv with ⟨rfl, -⟩ | h; exact Nat.zero_le _; omega)
   have hLo := start_ok (C := C) h32
   rw [hLe.out] at hL hLo hA3
   have hty := typed_marks hLo
   rw [hL] at hty
   replace hty := Lib.hid hty
   clear hA2 hB2 hm2 e1 e2 e3 e4 e5 hLe hLo hL hm1 hT1 g1 hv h32
   go_upto_region 7 with (at_builtin; refine Lib.wpList_copy_run _ rfl _ _ _ _ rfl _ _ rfl rfl hcp ?_)
   clear hcp hmk c1
   have hrq : q ≤ r := by omega
   have hD0 : Hid (Does T r 65 (b + 264 * (C - 0)) (marksF 0) (marksC L, S1) w3 w3) := Lib.hid (Does.nil hT3.out hA3.out)
   have hrq2 := Lib.hid hrq
   clear hA3 hT3 hz1 hz3 hrq hB hBw hoi hqo
   go_wp2_with fail
   go_loopw [21] (fun c wr => ∃ i : Nat, c = .int .i64 (i : Int) ∧ i ≤ C ∧ Hid (Does T r 65 (b + 264 * (C - i)) (marksF i) (marksC L, S1) w3 wr))
    (fun c _ => C - (RowKit.intOf c).toNat)
   case atStart => exact ⟨0, rfl, by omega, hD0⟩
   case round =>
    obtain ⟨wi, hwi⟩ : ∃ wi, wi = wr := ⟨_, rfl⟩
    subst hwi
    obtain ⟨i, rfl, hi, hD⟩ := hrel
    clear hD0
    by_cases hlt : i < C
    case neg =>
     obtain rfl : C = i := by omega
     have hD2 := hD.out
     rw [Nat.sub_self] at hD2
     have hg : w.grownBy wi (some T.own) := Two.grown' hD2.two hq.out hrq2.out g3.out
     have hres : MarksTold T b C L S1 w (.slice (some ⟨r, 0, none⟩) C C) wi := ⟨fun h => absurd h hC0, fun _ => ⟨r, rfl, by rw [hq.out]; exact hrq2.out, hD2.cs⟩, hD2.st, hg⟩
     replace hres := Lib.hid hres
     clear hD hD2 hg g3 hlt
     go_wp2_with fail
     go_ret
     exact ⟨_, rfl, hres.out⟩
    have hlt' : (i : Int) < (C : Int) := by omega
    have tA : Typed (marksF i) (marksC L) := hty.out.some_marks hi
    have tB : Typed (markF i) (T.chain (marksF i) (marksC L, S1)).1 := Typed.chain hT tA (hty.out.mark hlt)
    have f1 := T.field (i * 33, Kd.i, 1) (b + 264 * (C - (i + 1)) + 8 * 32) r 65 (T.chain (marksF i) (marksC L, S1)) wi (T.less hD.out.st (by omega)) hD.out.cs (tB _ List.mem_cons_self) (by rw [how.out]; exact hro)
    rw [htv] at f1
    replace f1 := Lib.hid f1
    replace tB := Lib.hid tB
    have hltH := Lib.hid hlt
    clear hlt tA
    go_wp2_with fail
    refine f1.out.mono ?_
    rintro e w4 ⟨rfl, d1⟩
    have f2 := walkDigest_any T hT r (i * 33 + 1) (b + 264 * (C - (i + 1))) 65 _ w4 d1.st d1.cs (Typed.chain hT (l := [(i * 33, Kd.i, 1)]) (fun y hy => tB.out y (by rw [List.mem_singleton] at hy; subst hy; exact List.mem_cons_self)) (fun y hy => tB.out y (List.mem_cons_of_mem _ hy))) (by rw [how.out]; exact hro)
    rw [htv] at f2
    replace f2 := Lib.hid f2
    replace d1 := Lib.hid d1
    clear f1
    go_wp2_with fail
    refine f2.out.mono ?_
    rintro e w5 ⟨rfl, d2⟩
    have d3 := d1.out.trans d2
    have d4 := hD.out.trans d3
    rw [show [((i * 33, Kd.i, 1) : Fld)] ++ digF (i * 33 + 1) = markF i from rfl, ← marksF_next] at d4
    replace d4 := Lib.hid d4
    clear f2 d1 d2 d3 hD
    go_wp2_with fail
    go_roundw
    case rel => exact ⟨i + 1, by go_num, by have := hltH.out; omega, d4⟩
    case measure => have := hltH.out; simp [RowKit.intOf]; omega
def walkF (k : Int) : List Fld :=
 if k = 1 then [(3, Kd.i, 1)] ++ ([(4, Kd.i, 4)] ++ rqF 5)
 else if k = 2 then [(2, Kd.i, 1)] ++ digF 15
 else if k = 4 then [(2, Kd.i, 1)] ++ ([(48, Kd.u, 8)] ++ [(49, Kd.u, 8)])
 else []
def MarksTold' (T : Tell) (b C : Nat) (L : List Mk) (s : T.S) (M : Nat) (u : Value) (w' : World) : Prop :=
 (C = 0 → u = .slice none 0 0) ∧ (0 < C → ∃ q, u = .slice (some ⟨q, 0, none⟩) C C ∧ M ≤ q ∧ AtL w' q 65 (T.chain (marksF C) (marksC L, s)).1) ∧ T.At b (T.chain (marksF C) (marksC L, s)).2 w'
theorem one_keeps (T : Tell) (x : Fld) (p : List Value × T.S) {j : Nat} (h : x.1 ≠ j) : (T.one x p).1[j]? = p.1[j]? := by
 simp only [Tell.one]
 rw [List.getElem?_set_ne h]
set_option maxRecDepth 100000 in
set_option maxHeartbeats 16000000 in
theorem walk_flat (T : Tell) (hT : T.fits) (g b : Nat) (t : TypeId) (p : List Value × T.S) (k : Int) (w : World) (h : T.At (b + 8 * 40) p.2 w) (hA : AtL w g 42 p.1) (hk : p.1[0]? = some (.int .i64 k)) (hg : g ≠ T.own) (h1 : Is (1, Kd.i, 1) p.1) (hn3 : k ≠ 3) (hn5 : k ≠ 5) (hty : Typed (walkF k) p.1) :
 Calls Try.prog 28 #[T.tv, .pointer (some ⟨g, 0, none⟩)] w fun e w' => e = .returned (.tuple #[]) ∧ Does T g 42 b ([(1, Kd.i, 1)] ++ walkF k) p w w' := by
 have hk1 : (T.one (1, Kd.i, 1) p).1[0]? = some (.int .i64 k) := (one_keeps T (1, Kd.i, 1) p (by decide)).trans hk
 have f1 := T.field (1, Kd.i, 1) (b + 8 * 39) g 42 p w h hA h1 hg
 obtain ⟨tv, htv⟩ : ∃ tv, T.tv = tv := ⟨_, rfl⟩
 rw [htv] at f1 ⊢
 replace f1 := Lib.hid f1
 clear h hA hk
 go_enter Try.func28, Try.ntmps28
 go_wp2_with fail
 refine f1.out.mono ?_
 rintro e w1 ⟨rfl, hD⟩
 have c0 := hD.cs.get hk1
 replace hD := Lib.hid hD
 clear f1 hk1
 have h1s : Typed [(1, Kd.i, 1)] p.1 := fun y hy => by rw [List.mem_singleton] at hy; subst hy; exact h1
 replace h1s := Lib.hid h1s
 clear h1
 by_cases y1 : k = 1
 · subst y1
   have hF : walkF 1 = ([(3, Kd.i, 1)] ++ ([(4, Kd.i, 4)] ++ rqF 5)) := rfl
   rw [hF] at hty
   replace hF := Lib.hid hF
   have tr0 := Lib.hid hty.left
   have rest0 := hty.right
   have tr1 := Lib.hid rest0.left
   have rest1 := rest0.right
   have tr2 := Lib.hid rest1
   clear hty rest0 rest1
   have ty0 := h1s
   have tX : Typed ([(3, Kd.i, 1)]) (T.chain ([(1, Kd.i, 1)]) p).1 := Typed.chain hT ty0.out tr0.out
   have f1 := T.field (3, Kd.i, 1) (b + 8 * 11) g 42 (T.chain ([(1, Kd.i, 1)]) p) w1 (T.less hD.out.st (by omega)) hD.out.cs (tX _ List.mem_cons_self) hg
   rw [htv] at f1
   replace f1 := Lib.hid f1
   clear tX
   go_wp2_with fail
   refine f1.out.mono ?_
   rintro e w2 ⟨rfl, d⟩
   replace hD := Lib.hid (hD.out.trans d)
   clear f1 d
   clear c0
   have ty1 := Lib.hid (show Typed ([(1, Kd.i, 1)] ++ [(3, Kd.i, 1)]) p.1 from fun y hy => by rcases List.mem_append.1 hy with h | h; exact ty0.out y h; exact tr0.out y h)
   have tX : Typed ([(4, Kd.i, 4)]) (T.chain ([(1, Kd.i, 1)] ++ [(3, Kd.i, 1)]) p).1 := Typed.chain hT ty1.out tr1.out
   have f1 := T.field (4, Kd.i, 4) (b + 8 * 10) g 42 (T.chain ([(1, Kd.i, 1)] ++ [(3, Kd.i, 1)]) p) w2 (T.less hD.out.st (by omega)) hD.out.cs (tX _ List.mem_cons_self) hg
   rw [htv] at f1
   replace f1 := Lib.hid f1
   clear tX
   go_wp2_with fail
   refine f1.out.mono ?_
   rintro e w3 ⟨rfl, d⟩
   replace hD := Lib.hid (hD.out.trans d)
   clear f1 d
   have ty2 := Lib.hid (show Typed ([(1, Kd.i, 1)] ++ [(3, Kd.i, 1)] ++ [(4, Kd.i, 4)]) p.1 from fun y hy => by rcases List.mem_append.1 hy with h | h; exact ty1.out y h; exact tr1.out y h)
   have tX : Typed (rqF 5) (T.chain ([(1, Kd.i, 1)] ++ [(3, Kd.i, 1)] ++ [(4, Kd.i, 4)]) p).1 := Typed.chain hT ty2.out tr2.out
   have f1 := walkRequest_any T hT g 5 (b + 0) 42 (T.chain ([(1, Kd.i, 1)] ++ [(3, Kd.i, 1)] ++ [(4, Kd.i, 4)]) p) w3 (T.less hD.out.st (by omega)) hD.out.cs tX hg
   rw [htv] at f1
   replace f1 := Lib.hid f1
   clear tX
   go_wp2_with fail
   refine f1.out.mono ?_
   rintro e w4 ⟨rfl, d⟩
   replace hD := Lib.hid (hD.out.trans d)
   clear f1 d
   go_wp2
   refine bodyPost_end (results_none rfl _ _ _) rfl ?_
   refine ⟨rfl, ?_⟩
   rw [hF.out]
   have hD2 := hD.out
   simp only [List.append_assoc] at hD2
   exact ⟨(T.less hD2.st (by omega)), hD2.cs, hD2.two⟩
 by_cases y2 : k = 2
 · subst y2
   have hF : walkF 2 = ([(2, Kd.i, 1)] ++ digF 15) := rfl
   rw [hF] at hty
   replace hF := Lib.hid hF
   have tr0 := Lib.hid hty.left
   have rest0 := hty.right
   have tr1 := Lib.hid rest0
   clear hty rest0
   have ty0 := h1s
   have tX : Typed ([(2, Kd.i, 1)]) (T.chain ([(1, Kd.i, 1)]) p).1 := Typed.chain hT ty0.out tr0.out
   have f1 := T.field (2, Kd.i, 1) (b + 8 * 32) g 42 (T.chain ([(1, Kd.i, 1)]) p) w1 (T.less hD.out.st (by omega)) hD.out.cs (tX _ List.mem_cons_self) hg
   rw [htv] at f1
   replace f1 := Lib.hid f1
   clear tX
   go_wp2_with fail
   refine f1.out.mono ?_
   rintro e w2 ⟨rfl, d⟩
   replace hD := Lib.hid (hD.out.trans d)
   clear f1 d
   clear c0
   have ty1 := Lib.hid (show Typed ([(1, Kd.i, 1)] ++ [(2, Kd.i, 1)]) p.1 from fun y hy => by rcases List.mem_append.1 hy with h | h; exact ty0.out y h; exact tr0.out y h)
   have tX : Typed (digF 15) (T.chain ([(1, Kd.i, 1)] ++ [(2, Kd.i, 1)]) p).1 := Typed.chain hT ty1.out tr1.out
   have f1 := walkDigest_any T hT g 15 (b + 0) 42 (T.chain ([(1, Kd.i, 1)] ++ [(2, Kd.i, 1)]) p) w2 (T.less hD.out.st (by omega)) hD.out.cs tX hg
   rw [htv] at f1
   replace f1 := Lib.hid f1
   clear tX
   go_wp2_with fail
   refine f1.out.mono ?_
   rintro e w3 ⟨rfl, d⟩
   replace hD := Lib.hid (hD.out.trans d)
   clear f1 d
   go_wp2
   refine bodyPost_end (results_none rfl _ _ _) rfl ?_
   refine ⟨rfl, ?_⟩
   rw [hF.out]
   have hD2 := hD.out
   simp only [List.append_assoc] at hD2
   exact ⟨(T.less hD2.st (by omega)), hD2.cs, hD2.two⟩
 by_cases y4 : k = 4
 · subst y4
   have hF : walkF 4 = ([(2, Kd.i, 1)] ++ ([(48, Kd.u, 8)] ++ [(49, Kd.u, 8)])) := rfl
   rw [hF] at hty
   replace hF := Lib.hid hF
   have tr0 := Lib.hid hty.left
   have rest0 := hty.right
   have tr1 := Lib.hid rest0.left
   have rest1 := rest0.right
   have tr2 := Lib.hid rest1
   clear hty rest0 rest1
   have ty0 := h1s
   have tX : Typed ([(2, Kd.i, 1)]) (T.chain ([(1, Kd.i, 1)]) p).1 := Typed.chain hT ty0.out tr0.out
   have f1 := T.field (2, Kd.i, 1) (b + 16) g 42 (T.chain ([(1, Kd.i, 1)]) p) w1 (T.less hD.out.st (by omega)) hD.out.cs (tX _ List.mem_cons_self) hg
   rw [htv] at f1
   replace f1 := Lib.hid f1
   clear tX
   go_wp2_with fail
   refine f1.out.mono ?_
   rintro e w2 ⟨rfl, d⟩
   replace hD := Lib.hid (hD.out.trans d)
   clear f1 d
   clear c0
   have ty1 := Lib.hid (show Typed ([(1, Kd.i, 1)] ++ [(2, Kd.i, 1)]) p.1 from fun y hy => by rcases List.mem_append.1 hy with h | h; exact ty0.out y h; exact tr0.out y h)
   have tX : Typed ([(48, Kd.u, 8)]) (T.chain ([(1, Kd.i, 1)] ++ [(2, Kd.i, 1)]) p).1 := Typed.chain hT ty1.out tr1.out
   have f1 := T.field (48, Kd.u, 8) (b + 8) g 42 (T.chain ([(1, Kd.i, 1)] ++ [(2, Kd.i, 1)]) p) w2 (T.less hD.out.st (by omega)) hD.out.cs (tX _ List.mem_cons_self) hg
   rw [htv] at f1
   replace f1 := Lib.hid f1
   clear tX
   go_wp2_with fail
   refine f1.out.mono ?_
   rintro e w3 ⟨rfl, d⟩
   replace hD := Lib.hid (hD.out.trans d)
   clear f1 d
   have ty2 := Lib.hid (show Typed ([(1, Kd.i, 1)] ++ [(2, Kd.i, 1)] ++ [(48, Kd.u, 8)]) p.1 from fun y hy => by rcases List.mem_append.1 hy with h | h; exact ty1.out y h; exact tr1.out y h)
   have tX : Typed ([(49, Kd.u, 8)]) (T.chain ([(1, Kd.i, 1)] ++ [(2, Kd.i, 1)] ++ [(48, Kd.u, 8)]) p).1 := Typed.chain hT ty2.out tr2.out
   have f1 := T.field (49, Kd.u, 8) (b + 0) g 42 (T.chain ([(1, Kd.i, 1)] ++ [(2, Kd.i, 1)] ++ [(48, Kd.u, 8)]) p) w3 (T.less hD.out.st (by omega)) hD.out.cs (tX _ List.mem_cons_self) hg
   rw [htv] at f1
   replace f1 := Lib.hid f1
   clear tX
   go_wp2_with fail
   refine f1.out.mono ?_
   rintro e w4 ⟨rfl, d⟩
   replace hD := Lib.hid (hD.out.trans d)
   clear f1 d
   go_wp2
   refine bodyPost_end (results_none rfl _ _ _) rfl ?_
   refine ⟨rfl, ?_⟩
   rw [hF.out]
   have hD2 := hD.out
   simp only [List.append_assoc] at hD2
   exact ⟨(T.less hD2.st (by omega)), hD2.cs, hD2.two⟩
 have hF : walkF k = [] := by simp [walkF, y1, y2, y4]
 replace hF := Lib.hid hF
 clear hty
 go_wp2
 refine bodyPost_end (results_none rfl _ _ _) rfl ?_
 exact ⟨rfl, by rw [hF.out]; exact ⟨T.less hD.out.st (by omega), hD.out.cs, hD.out.two⟩⟩
set_option maxRecDepth 100000 in
set_option maxHeartbeats 16000000 in
theorem walk_out (T : Tell) (hT : T.fits) (g b : Nat) (t : TypeId) (p : List Value × T.S) (k : Int) (w : World) (h : T.At (b + 8 * 4) p.2 w) (hA : AtL w g 42 p.1) (hk : p.1[0]? = some (.int .i64 k)) (hg : g ≠ T.own) (h1 : Is (1, Kd.i, 1) p.1) (wn : Int) (hk5 : k = 5) (h50 : Is (50, Kd.i, 1) p.1) (h51 : p.1[51]? = some (.int .i64 wn)) (h52 : Is (52, Kd.u, 8) p.1) :
 Calls Try.prog 28 #[T.tv, .pointer (some ⟨g, 0, none⟩)] w fun e w' => e = .returned (.tuple #[]) ∧ Done T g 42 b (outS T 50 (T.one (1, Kd.i, 1) p)) w w' := by
 subst hk5
 have hk1 : (T.one (1, Kd.i, 1) p).1[0]? = some (.int .i64 5) := (one_keeps T (1, Kd.i, 1) p (by decide)).trans hk
 have f1 := T.field (1, Kd.i, 1) (b + 8 * 3) g 42 p w h hA h1 hg
 obtain ⟨tv, htv⟩ : ∃ tv, T.tv = tv := ⟨_, rfl⟩
 rw [htv] at f1 ⊢
 replace f1 := Lib.hid f1
 clear h hA hk
 go_enter Try.func28, Try.ntmps28
 go_wp2_with fail
 refine f1.out.mono ?_
 rintro e w1 ⟨rfl, hD⟩
 have c0 := hD.cs.get hk1
 replace hD := Lib.hid hD
 clear f1 hk1
 have f1 := walkOutcome_any T hT g 50 b 42 (T.one (1, Kd.i, 1) p) w1 hD.out.st hD.out.cs (Is.one hT h1 h50) wn ((one_keeps T (1, Kd.i, 1) p (by decide)).trans h51) (Is.one hT h1 h52) hg
 rw [htv] at f1
 replace f1 := Lib.hid f1
 clear h1 h50 h51 h52
 go_wp2_with fail
 refine f1.out.mono ?_
 rintro e w2 ⟨rfl, d⟩
 have hd := Lib.hid (hD.out.done.then d)
 clear hD f1 d
 go_wp2
 refine bodyPost_end (results_none rfl _ _ _) rfl ?_
 exact ⟨rfl, hd.out⟩
set_option maxRecDepth 100000 in
set_option maxHeartbeats 16000000 in
theorem walk_marks (C : Nat) (T : Tell) (hT : T.fits) (g b : Nat) (t : TypeId) (p : List Value × T.S) (k : Int) (w : World) (h : T.At (b + 8 * 2 + 264 * C) p.2 w) (hA : AtL w g 42 p.1) (hk : p.1[0]? = some (.int .i64 k)) (hg : g ≠ T.own) (h1 : Is (1, Kd.i, 1) p.1) (hk3 : k = 3) (B : Nat) (x : Option Addr) (N cap : Nat) (l : List Mk) (hv47 : p.1[47]? = some (.slice x N cap)) (hC : (T.step (T.one (1, Kd.i, 1) p).2 (toU (N : Int)) 1).1 = C) (hC1 : C ≤ 1000) (h32 : ∀ q ∈ l, q.2.length = 32) (hv : (l = [] ∧ Value.slice x N cap = .slice none 0 0) ∨ l.length = C) (hm : MarksAt B w (.slice x N cap) l) (hB : B ≤ T.own) (hBw : B ≤ w.heap.size) (hBg : B ≤ g) :
 Calls Try.prog 28 #[T.tv, .pointer (some ⟨g, 0, none⟩)] w fun e w' => e = .returned (.tuple #[]) ∧ ∃ (u : Value) (M : Nat), MarksTold' T b C (startM l C) (T.step (T.one (1, Kd.i, 1) p).2 (toU (N : Int)) 1).2 M u w' ∧ w.heap.size ≤ M ∧ AtL w' g 42 ((T.one (1, Kd.i, 1) p).1.set 47 u) ∧ Two T.own g w w' := by
 subst hk3
 have hk1 : (T.one (1, Kd.i, 1) p).1[0]? = some (.int .i64 3) := (one_keeps T (1, Kd.i, 1) p (by decide)).trans hk
 have f1 := T.field (1, Kd.i, 1) (b + 264 * C + 8) g 42 p w (T.less h (by omega)) hA h1 hg
 obtain ⟨tv, htv⟩ : ∃ tv, T.tv = tv := ⟨_, rfl⟩
 rw [htv] at f1 ⊢
 replace f1 := Lib.hid f1
 clear h hA hk
 go_enter Try.func28, Try.ntmps28
 go_wp2_with fail
 refine f1.out.mono ?_
 rintro e w1 ⟨rfl, hD⟩
 have c0 := hD.cs.get hk1
 replace hD := Lib.hid hD
 clear f1 hk1
 have hm1 := hm.keep (hD.out.two.below hB hBg hBw) (Nat.le_refl _)
 have c47 := hD.out.cs.get ((one_keeps T (1, Kd.i, 1) p (by decide)).trans hv47)
 have f1 := walkMarks_any T hT b C B x N cap l _ w1 hD.out.st hC hC1 h32 hv hm1 hB (Nat.le_trans hBw hD.out.two.size)
 rw [htv] at f1
 replace f1 := Lib.hid f1
 obtain ⟨P1, hP1⟩ : ∃ P1, T.one (1, Kd.i, 1) p = P1 := ⟨_, rfl⟩
 simp only [Tell.chain, hP1] at f1
 have hcs : AtL w1 g 42 P1.1 := by have := hD.out.cs; simp only [Tell.chain, hP1] at this; exact this
 have htw := hD.out.two
 have h47 := Lib.hid hv47
 clear h1 hm hv h32 hC hv47 hm1
 have hgi := hcs.inside
 replace hcs := Lib.hid hcs
 replace hP1 := Lib.hid hP1
 clear hD
 go_wp2_with fail
 refine f1.out.mono ?_
 rintro e w2 ⟨u, rfl, d⟩
 have hcs2 := (Two.of_grown (b := T.own) d.2.2.2).atL hcs.out hg hg
 have cc := hcs2.cell 47
 have ff := hcs2.free 47
 have hcs3 := Lib.hid (hcs2.put 47 u)
 have hst3 := T.keep d.2.2.1 (Below.heap_setCell w2 ⟨g, 47, none⟩ u T.own (by simpa using Ne.symm hg))
 have hg3 : w1.grownBy (w2.setCell ⟨g, 47, none⟩ u) (some T.own) ∨ True := .inr trivial
 have htw3 := Lib.hid ((htw.trans (Two.of_grown (b := g) d.2.2.2)).trans (Two.set T.own g w2 47 u))
 have hlen : ∃ y, P1.1[47]? = some y := by rw [← hP1.out]; exact ⟨_, (one_keeps T (1, Kd.i, 1) p (by decide)).trans h47.out⟩
 obtain ⟨y, hy⟩ := hlen
 rw [hy] at cc
 clear hy hg3
 have hres : ∃ M : Nat, MarksTold' T b C (startM l C) (T.step P1.2 (toU (N : Int)) 1).2 M u (w2.setCell ⟨g, 47, none⟩ u) ∧ w.heap.size ≤ M := by
  refine ⟨w1.heap.size, ⟨d.1, fun h => ?_, hst3⟩, htw.size⟩
  obtain ⟨q, e1, e2, e3⟩ := d.2.1 h
  exact ⟨q, e1, e2, e3.far (by omega) 47 u⟩
 replace hres := Lib.hid hres
 have hu := d.1
 have hu2 := d.2.1
 clear f1 d hcs hcs2 hst3 htw
 by_cases hC0 : C = 0
 · obtain rfl := hu hC0
   clear hu2
   go_wp2
   refine bodyPost_end (results_none rfl _ _ _) rfl ?_
   obtain ⟨W, h1, h2⟩ := hres.out
   exact ⟨rfl, _, W, by rw [hP1.out]; exact h1, h2, by rw [hP1.out]; exact hcs3.out, htw3.out⟩
 · obtain ⟨q, rfl, -, -⟩ := hu2 (by omega)
   clear hu
   go_wp2
   refine bodyPost_end (results_none rfl _ _ _) rfl ?_
   obtain ⟨W, h1, h2⟩ := hres.out
   exact ⟨rfl, _, W, by rw [hP1.out]; exact h1, h2, by rw [hP1.out]; exact hcs3.out, htw3.out⟩
end Go.Proofs.Ytpefdmkfmcjfnaa.Mp

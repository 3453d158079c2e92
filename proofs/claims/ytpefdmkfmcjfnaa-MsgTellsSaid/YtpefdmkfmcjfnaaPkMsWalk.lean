import Derived.Test.YtpefdmkfmcjfnaaPkMsMk

namespace Go.Proofs.Ytpefdmkfmcjfnaa.Mp
open Go.RowKit Go.Sort Go.Proofs.Ytpefdmkfmcjfnaa.Mem Go.Proofs.Ytpefdmkfmcjfnaa.Route Go.Proofs.Ytpefdmkfmcjfnaa.Oct Go.Proofs.Ytpefdmkfmcjfnaa.Ms
set_option linter.unusedVariables false
def walkF (k : Int) : List Fld :=
 if k = 1 then [(3, Kd.i, 1)] ++ ([(4, Kd.i, 4)] ++ rqF 5)
 else if k = 2 then [(2, Kd.i, 1)] ++ digF 15
 else if k = 4 then [(2, Kd.i, 1)] ++ ([(48, Kd.u, 8)] ++ [(49, Kd.u, 8)])
 else []
def MarksTold' (T : Tell) (b C : Nat) (L : List Mk) (s : T.S) (M : Nat) (u : Value) (w' : World) : Prop :=
 (C = 0 → u = .slice none 0 0) ∧ (0 < C → ∃ q, u = .slice (some ⟨q, 0, none⟩) C C ∧ M ≤ q ∧ AtL w' q 65 (T.chain (marksF C) (marksC L, s)).1) ∧ T.At b (T.chain (marksF C) (marksC L, s)).2 w'
theorem one_keeps (T : Tell) (x : Fld) (p : List Value × T.S) {j : Nat} (h : x.1 ≠ j) : (T.one x p).1[j]? = p.1[j]? := by
 simp only [Tell.one]
 rw [List.getElem?_set_ne h]
set_option maxRecDepth 100000 in
set_option maxHeartbeats 16000000 in
theorem walk_flat (T : Tell) (hT : T.fits) (g b : Nat) (t : TypeId) (p : List Value × T.S) (k : Int) (w : World) (h : T.At (b + 8 * 40) p.2 w) (hA : AtL w g 42 p.1) (hk : p.1[0]? = some (.int .i64 k)) (hg : g ≠ T.own) (h1 : Is (1, Kd.i, 1) p.1) (hn3 : k ≠ 3) (hn5 : k ≠ 5) (hty : Typed (walkF k) p.1) :
 Calls Try.prog 28 #[T.tv, .pointer (some ⟨g, 0, none⟩)] w fun e w' => e = .returned (.tuple #[]) ∧ Does T g 42 b ([(1, Kd.i, 1)] ++ walkF k) p w w' := by
 have hk1 : (T.one (1, Kd.i, 1) p).1[0]? = some (.int .i64 k) := (one_keeps T (1, Kd.i, 1) p (by decide)).trans hk
 have f1 := T.field (1, Kd.i, 1) (b + 8 * 39) g 42 p w h hA h1 hg
 obtain ⟨tv, htv⟩ : ∃ tv, T.tv = tv := ⟨_, rfl⟩
 rw [htv] at f1 ⊢
 replace f1 := Lib.hid f1
 clear h hA hk
 go_enter Try.func28, Try.ntmps28
 go_wp2_with fail
 refine f1.out.mono ?_
 rintro e w1 ⟨rfl, hD⟩
 have c0 := hD.cs.get hk1
 replace hD := Lib.hid hD
 clear f1 hk1
 have h1s : Typed [(1, Kd.i, 1)] p.1 := fun y hy => by rw [List.mem_singleton] at hy; subst hy; exact h1
 replace h1s := Lib.hid h1s
 clear h1
 by_cases y1 : k = 1
 · subst y1
   have hF : walkF 1 = ([(3, Kd.i, 1)] ++ ([(4, Kd.i, 4)] ++ rqF 5)) := rfl
   rw [hF] at hty
   replace hF := Lib.hid hF
   have tr0 := Lib.hid hty.left
   have rest0 := hty.right
   have tr1 := Lib.hid rest0.left
   have rest1 := rest0.right
   have tr2 := Lib.hid rest1
   clear hty rest0 rest1
   have ty0 := h1s
   have tX : Typed ([(3, Kd.i, 1)]) (T.chain ([(1, Kd.i, 1)]) p).1 := Typed.chain hT ty0.out tr0.out
   have f1 := T.field (3, Kd.i, 1) (b + 8 * 11) g 42 (T.chain ([(1, Kd.i, 1)]) p) w1 (T.less hD.out.st (by omega)) hD.out.cs (tX _ List.mem_cons_self) hg
   rw [htv] at f1
   replace f1 := Lib.hid f1
   clear tX
   go_wp2_with fail
   refine f1.out.mono ?_
   rintro e w2 ⟨rfl, d⟩
   replace hD := Lib.hid (hD.out.trans d)
   clear f1 d
   clear c0
   have ty1 := Lib.hid (show Typed ([(1, Kd.i, 1)] ++ [(3, Kd.i, 1)]) p.1 from fun y hy => by rcases List.mem_append.1 hy with h | h; exact ty0.out y h; exact tr0.out y h)
   have tX : Typed ([(4, Kd.i, 4)]) (T.chain ([(1, Kd.i, 1)] ++ [(3, Kd.i, 1)]) p).1 := Typed.chain hT ty1.out tr1.out
   have f1 := T.field (4, Kd.i, 4) (b + 8 * 10) g 42 (T.chain ([(1, Kd.i, 1)] ++ [(3, Kd.i, 1)]) p) w2 (T.less hD.out.st (by omega)) hD.out.cs (tX _ List.mem_cons_self) hg
   rw [htv] at f1
   replace f1 := Lib.hid f1
   clear tX
   go_wp2_with fail
   refine f1.out.mono ?_
   rintro e w3 ⟨rfl, d⟩
   replace hD := Lib.hid (hD.out.trans d)
   clear f1 d
   have ty2 := Lib.hid (show Typed ([(1, Kd.i, 1)] ++ [(3, Kd.i, 1)] ++ [(4, Kd.i, 4)]) p.1 from fun y hy => by rcases List.mem_append.1 hy with h | h; exact ty1.out y h; exact tr1.out y h)
   have tX : Typed (rqF 5) (T.chain ([(1, Kd.i, 1)] ++ [(3, Kd.i, 1)] ++ [(4, Kd.i, 4)]) p).1 := Typed.chain hT ty2.out tr2.out
   have f1 := walkRequest_any T hT g 5 (b + 0) 42 (T.chain ([(1, Kd.i, 1)] ++ [(3, Kd.i, 1)] ++ [(4, Kd.i, 4)]) p) w3 (T.less hD.out.st (by omega)) hD.out.cs tX hg
   rw [htv] at f1
   replace f1 := Lib.hid f1
   clear tX
   go_wp2_with fail
   refine f1.out.mono ?_
   rintro e w4 ⟨rfl, d⟩
   replace hD := Lib.hid (hD.out.trans d)
   clear f1 d
   go_wp2
   refine bodyPost_end (results_none rfl _ _ _) rfl ?_
   refine ⟨rfl, ?_⟩
   rw [hF.out]
   have hD2 := hD.out
   simp only [List.append_assoc] at hD2
   exact ⟨(T.less hD2.st (by omega)), hD2.cs, hD2.two⟩
 by_cases y2 : k = 2
 · subst y2
   have hF : walkF 2 = ([(2, Kd.i, 1)] ++ digF 15) := rfl
   rw [hF] at hty
   replace hF := Lib.hid hF
   have tr0 := Lib.hid hty.left
   have rest0 := hty.right
   have tr1 := Lib.hid rest0
   clear hty rest0
   have ty0 := h1s
   have tX : Typed ([(2, Kd.i, 1)]) (T.chain ([(1, Kd.i, 1)]) p).1 := Typed.chain hT ty0.out tr0.out
   have f1 := T.field (2, Kd.i, 1) (b + 8 * 32) g 42 (T.chain ([(1, Kd.i, 1)]) p) w1 (T.less hD.out.st (by omega)) hD.out.cs (tX _ List.mem_cons_self) hg
   rw [htv] at f1
   replace f1 := Lib.hid f1
   clear tX
   go_wp2_with fail
   refine f1.out.mono ?_
   rintro e w2 ⟨rfl, d⟩
   replace hD := Lib.hid (hD.out.trans d)
   clear f1 d
   clear c0
   have ty1 := Lib.hid (show Typed ([(1, Kd.i, 1)] ++ [(2, Kd.i, 1)]) p.1 from fun y hy => by rcases List.mem_append.1 hy with h | h; exact ty0.out y h; exact tr0.out y h)
   have tX : Typed (digF 15) (T.chain ([(1, Kd.i, 1)] ++ [(2, Kd.i, 1)]) p).1 := Typed.chain hT ty1.out tr1.out
   have f1 := walkDigest_any T hT g 15 (b + 0) 42 (T.chain ([(1, Kd.i, 1)] ++ [(2, Kd.i, 1)]) p) w2 (T.less hD.out.st (by omega)) hD.out.cs tX hg
   rw [htv] at f1
   replace f1 := Lib.hid f1
   clear tX
   go_wp2_with fail
   refine f1.out.mono ?_
   rintro e w3 ⟨rfl, d⟩
   replace hD := Lib.hid (hD.out.trans d)
   clear f1 d
   go_wp2
   refine bodyPost_end (results_none rfl _ _ _) rfl ?_
   refine ⟨rfl, ?_⟩
   rw [hF.out]
   have hD2 := hD.out
   simp only [List.append_assoc] at hD2
   exact ⟨(T.less hD2.st (by omega)), hD2.cs, hD2.two⟩
 by_cases y4 : k = 4
 · subst y4
   have hF : walkF 4 = ([(2, Kd.i, 1)] ++ ([(48, Kd.u, 8)] ++ [(49, Kd.u, 8)])) := rfl
   rw [hF] at hty
   replace hF := Lib.hid hF
   have tr0 := Lib.hid hty.left
   have rest0 := hty.right
   have tr1 := Lib.hid rest0.left
   have rest1 := rest0.right
   have tr2 := Lib.hid rest1
   clear hty rest0 rest1
   have ty0 := h1s
   have tX : Typed ([(2, Kd.i, 1)]) (T.chain ([(1, Kd.i, 1)]) p).1 := Typed.chain hT ty0.out tr0.out
   have f1 := T.field (2, Kd.i, 1) (b + 16) g 42 (T.chain ([(1, Kd.i, 1)]) p) w1 (T.less hD.out.st (by omega)) hD.out.cs (tX _ List.mem_cons_self) hg
   rw [htv] at f1
   replace f1 := Lib.hid f1
   clear tX
   go_wp2_with fail
   refine f1.out.mono ?_
   rintro e w2 ⟨rfl, d⟩
   replace hD := Lib.hid (hD.out.trans d)
   clear f1 d
   clear c0
   have ty1 := Lib.hid (show Typed ([(1, Kd.i, 1)] ++ [(2, Kd.i, 1)]) p.1 from fun y hy => by rcases List.mem_append.1 hy with h | h; exact ty0.out y h; exact tr0.out y h)
   have tX : Typed ([(48, Kd.u, 8)]) (T.chain ([(1, Kd.i, 1)] ++ [(2, Kd.i, 1)]) p).1 := Typed.chain hT ty1.out tr1.out
   have f1 := T.field (48, Kd.u, 8) (b + 8) g 42 (T.chain ([(1, Kd.i, 1)] ++ [(2, Kd.i, 1)]) p) w2 (T.less hD.out.st (by omega)) hD.out.cs (tX _ List.mem_cons_self) hg
   rw [htv] at f1
   replace f1 := Lib.hid f1
   clear tX
   go_wp2_with fail
   refine f1.out.mono ?_
   rintro e w3 ⟨rfl, d⟩
   replace hD := Lib.hid (hD.out.trans d)
   clear f1 d
   have ty2 := Lib.hid (show Typed ([(1, Kd.i, 1)] ++ [(2, Kd.i, 1)] ++ [(48, Kd.u, 8)]) p.1 from fun y hy => by rcases List.mem_append.1 hy with h | h; exact ty1.out y h; exact tr1.out y h)
   have tX : Typed ([(49, Kd.u, 8)]) (T.chain ([(1, Kd.i, 1)] ++ [(2, Kd.i, 1)] ++ [(48, Kd.u, 8)]) p).1 := Typed.chain hT ty2.out tr2.out
   have f1 := T.field (49, Kd.u, 8) (b + 0) g 42 (T.chain ([(1, Kd.i, 1)] ++ [(2, Kd.i, 1)] ++ [(48, Kd.u, 8)]) p) w3 (T.less hD.out.st (by omega)) hD.out.cs (tX _ List.mem_cons_self) hg
   rw [htv] at f1
   replace f1 := Lib.hid f1
   clear tX
   go_wp2_with fail
   refine f1.out.mono ?_
   rintro e w4 ⟨rfl, d⟩
   replace hD := Lib.hid (hD.out.trans d)
   clear f1 d
   go_wp2
   refine bodyPost_end (results_none rfl _ _ _) rfl ?_
   refine ⟨rfl, ?_⟩
   rw [hF.out]
   have hD2 := hD.out
   simp only [List.append_assoc] at hD2
   exact ⟨(T.less hD2.st (by omega)), hD2.cs, hD2.two⟩
 have hF : walkF k = [] := by simp [walkF, y1, y2, y4]
 replace hF := Lib.hid hF
 clear hty
 go_wp2
 refine bodyPost_end (results_none rfl _ _ _) rfl ?_
 exact ⟨rfl, by rw [hF.out]; exact ⟨T.less hD.out.st (by omega), hD.out.cs, hD.out.two⟩⟩
set_option maxRecDepth 100000 in
set_option maxHeartbeats 16000000 in
theorem walk_out (T : Tell) (hT : T.fits) (g b : Nat) (t : TypeId) (p : List Value × T.S) (k : Int) (w : World) (h : T.At (b + 8 * 4) p.2 w) (hA : AtL w g 42 p.1) (hk : p.1[0]? = some (.int .i64 k)) (hg : g ≠ T.own) (h1 : Is (1, Kd.i, 1) p.1) (wn : Int) (hk5 : k = 5) (h50 : Is (50, Kd.i, 1) p.1) (h51 : p.1[51]? = some (.int .i64 wn)) (h52 : Is (52, Kd.u, 8) p.1) :
 Calls Try.prog 28 #[T.tv, .pointer (some ⟨g, 0, none⟩)] w fun e w' => e = .returned (.tuple #[]) ∧ Done T g 42 b (outS T 50 (T.one (1, Kd.i, 1) p)) w w' := by
 subst hk5
 have hk1 : (T.one (1, Kd.i, 1) p).1[0]? = some (.int .i64 5) := (one_keeps T (1, Kd.i, 1) p (by decide)).trans hk
 have f1 := T.field (1, Kd.i, 1) (b + 8 * 3) g 42 p w h hA h1 hg
 obtain ⟨tv, htv⟩ : ∃ tv, T.tv = tv := ⟨_, rfl⟩
 rw [htv] at f1 ⊢
 replace f1 := Lib.hid f1
 clear h hA hk
 go_enter Try.func28, Try.ntmps28
 go_wp2_with fail
 refine f1.out.mono ?_
 rintro e w1 ⟨rfl, hD⟩
 have c0 := hD.cs.get hk1
 replace hD := Lib.hid hD
 clear f1 hk1
 have f1 := walkOutcome_any T hT g 50 b 42 (T.one (1, Kd.i, 1) p) w1 hD.out.st hD.out.cs (Is.one hT h1 h50) wn ((one_keeps T (1, Kd.i, 1) p (by decide)).trans h51) (Is.one hT h1 h52) hg
 rw [htv] at f1
 replace f1 := Lib.hid f1
 clear h1 h50 h51 h52
 go_wp2_with fail
 refine f1.out.mono ?_
 rintro e w2 ⟨rfl, d⟩
 have hd := Lib.hid (hD.out.done.then d)
 clear hD f1 d
 go_wp2
 refine bodyPost_end (results_none rfl _ _ _) rfl ?_
 exact ⟨rfl, hd.out⟩
set_option maxRecDepth 100000 in
set_option maxHeartbeats 16000000 in
theorem walk_marks (C : Nat) (T : Tell) (hT : T.fits) (g b : Nat) (t : TypeId) (p : List Value × T.S) (k : Int) (w : World) (h : T.At (b + 8 * 2 + 264 * C) p.2 w) (hA : AtL w g 42 p.1) (hk : p.1[0]? = some (.int .i64 k)) (hg : g ≠ T.own) (h1 : Is (1, Kd.i, 1) p.1) (hk3 : k = 3) (B : Nat) (x : Option Addr) (N cap : Nat) (l : List Mk) (hv47 : p.1[47]? = some (.slice x N cap)) (hC : (T.step (T.one (1, Kd.i, 1) p).2 (toU (N : Int)) 1).1 = C) (hC1 : C ≤ 1000) (h32 : ∀ q ∈ l, q.2.length = 32) (hv : (l = [] ∧ Value.slice x N cap = .slice none 0 0) ∨ l.length = C) (hm : MarksAt B w (.slice x N cap) l) (hB : B ≤ T.own) (hBw : B ≤ w.heap.size) (hBg : B ≤ g) :
 Calls Try.prog 28 #[T.tv, .pointer (some ⟨g, 0, none⟩)] w fun e w' => e = .returned (.tuple #[]) ∧ ∃ (u : Value) (M : Nat), MarksTold' T b C (startM l C) (T.step (T.one (1, Kd.i, 1) p).2 (toU (N : Int)) 1).2 M u w' ∧ w.heap.size ≤ M ∧ AtL w' g 42 ((T.one (1, Kd.i, 1) p).1.set 47 u) ∧ Two T.own g w w' := by
 subst hk3
 have hk1 : (T.one (1, Kd.i, 1) p).1[0]? = some (.int .i64 3) := (one_keeps T (1, Kd.i, 1) p (by decide)).trans hk
 have f1 := T.field (1, Kd.i, 1) (b + 264 * C + 8) g 42 p w (T.less h (by omega)) hA h1 hg
 obtain ⟨tv, htv⟩ : ∃ tv, T.tv = tv := ⟨_, rfl⟩
 rw [htv] at f1 ⊢
 replace f1 := Lib.hid f1
 clear h hA hk
 go_enter Try.func28, Try.ntmps28
 go_wp2_with fail
 refine f1.out.mono ?_
 rintro e w1 ⟨rfl, hD⟩
 have c0 := hD.cs.get hk1
 replace hD := Lib.hid hD
 clear f1 hk1
 have hm1 := hm.keep (hD.out.two.below hB hBg hBw) (Nat.le_refl _)
 have c47 := hD.out.cs.get ((one_keeps T (1, Kd.i, 1) p (by decide)).trans hv47)
 have f1 := walkMarks_any T hT b C B x N cap l _ w1 hD.out.st hC hC1 h32 hv hm1 hB (Nat.le_trans hBw hD.out.two.size)
 rw [htv] at f1
 replace f1 := Lib.hid f1
 obtain ⟨P1, hP1⟩ : ∃ P1, T.one (1, Kd.i, 1) p = P1 := ⟨_, rfl⟩
 simp only [Tell.chain, hP1] at f1
 have hcs : AtL w1 g 42 P1.1 := by have := hD.out.cs; simp only [Tell.chain, hP1] at this; exact this
 have htw := hD.out.two
 have h47 := Lib.hid hv47
 clear h1 hm hv h32 hC hv47 hm1
 have hgi := hcs.inside
 replace hcs := Lib.hid hcs
 replace hP1 := Lib.hid hP1
 clear hD
 go_wp2_with fail
 refine f1.out.mono ?_
 rintro e w2 ⟨u, rfl, d⟩
 have hcs2 := (Two.of_grown (b := T.own) d.2.2.2).atL hcs.out hg hg
 have cc := hcs2.cell 47
 have ff := hcs2.free 47
 have hcs3 := Lib.hid (hcs2.put 47 u)
 have hst3 := T.keep d.2.2.1 (Below.heap_setCell w2 ⟨g, 47, none⟩ u T.own (by simpa using Ne.symm hg))
 have hg3 : w1.grownBy (w2.setCell ⟨g, 47, none⟩ u) (some T.own) ∨ True := .inr trivial
 have htw3 := Lib.hid ((htw.trans (Two.of_grown (b := g) d.2.2.2)).trans (Two.set T.own g w2 47 u))
 have hlen : ∃ y, P1.1[47]? = some y := by rw [← hP1.out]; exact ⟨_, (one_keeps T (1, Kd.i, 1) p (by decide)).trans h47.out⟩
 obtain ⟨y, hy⟩ := hlen
 rw [hy] at cc
 clear hy hg3
 have hres : ∃ M : Nat, MarksTold' T b C (startM l C) (T.step P1.2 (toU (N : Int)) 1).2 M u (w2.setCell ⟨g, 47, none⟩ u) ∧ w.heap.size ≤ M := by
  refine ⟨w1.heap.size, ⟨d.1, fun h => ?_, hst3⟩, htw.size⟩
  obtain ⟨q, e1, e2, e3⟩ := d.2.1 h
  exact ⟨q, e1, e2, e3.far (by omega) 47 u⟩
 replace hres := Lib.hid hres
 have hu := d.1
 have hu2 := d.2.1
 clear f1 d hcs hcs2 hst3 htw
 by_cases hC0 : C = 0
 · obtain rfl := hu hC0
   clear hu2
   go_wp2
   refine bodyPost_end (results_none rfl _ _ _) rfl ?_
   obtain ⟨W, h1, h2⟩ := hres.out
   exact ⟨rfl, _, W, by rw [hP1.out]; exact h1, h2, by rw [hP1.out]; exact hcs3.out, htw3.out⟩
 · obtain ⟨q, rfl, -, -⟩ := hu2 (by omega)
   clear hu
   go_wp2
   refine bodyPost_end (results_none rfl _ _ _) rfl ?_
   obtain ⟨W, h1, h2⟩ := hres.out
   exact ⟨rfl, _, W, by rw [hP1.out]; exact h1, h2, by rw [hP1.out]; exact hcs3.out, htw3.out⟩
end Go.Proofs.Ytpefdmkfmcjfnaa.Mp
namespace Go.Proofs.Ytpefdmkfmcjfnaa.Dr
open Go.RowKit Go.Proofs.Ytpefdmkfmcjfnaa.Mem
set_option linter.unusedVariables false
structure But (n : Nat) (W W' : World) : Prop where
 os : W'.os = W.os
 tape : W'.tape = W.tape
 output : W'.output = W.output
 size : W.heap.size ≤ W'.heap.size
 block : ∀ k, k < W.heap.size → k ≠ n → W'.heap[k]? = W.heap[k]?
theorem But.refl (n : Nat) (W : World) : But n W W := ⟨rfl, rfl, rfl, Nat.le_refl _, fun _ _ _ => rfl⟩
theorem But.trans {n : Nat} {A B C : World} (h : But n A B) (k : But n B C) : But n A C :=
 ⟨k.os.trans h.os, k.tape.trans h.tape, k.output.trans h.output, Nat.le_trans h.size k.size, fun j hj h0 => (k.block j (Nat.lt_of_lt_of_le hj h.size) h0).trans (h.block j hj h0)⟩
theorem But.set (n : Nat) (W : World) (i : Nat) (v : Value) : But n W (W.setCell ⟨n, i, none⟩ v) := ⟨rfl, rfl, rfl, by simp, fun k _ h0 => Below.heap_setCell W _ v k h0⟩
theorem But.row (n : Nat) (W : World) (cs : Array Value) : But n W (W.setRow n cs) := ⟨rfl, rfl, rfl, by rw [setRow_size]; exact Nat.le_refl _, fun k _ h0 => setRow_other W n k cs h0⟩
theorem But.at {n g : Nat} {W W' : World} {t : TypeId} {cs : Array Value} (h : But n W W') (hA : At W g t cs) (h0 : g ≠ n) : At W' g t cs := (h.block g hA.inside h0).trans hA
theorem But.below {n B : Nat} {w W W' : World} (h : But n W W') (hb : Below B w W) (hB : B ≤ W.heap.size) (hn : B ≤ n) : Below B w W' :=
 ⟨h.os.trans hb.os, h.tape.trans hb.tape, h.output.trans hb.output, Nat.le_trans hb.size h.size, fun k hk => (h.block k (by omega) (by omega)).trans (hb.block k hk)⟩
def Vv (ks : List (Option Value)) (i : Nat) (v : Value) (w : World) : Prop := ∀ u, ks[i]? = some (some u) → v = u
theorem Vv.val {ks : List (Option Value)} {i : Nat} {u v : Value} {w : World} (h : ks[i]? = some (some u)) (e : v = u) : Vv ks i v w := fun x hx => by rw [h] at hx; cases hx; exact e
theorem Vv.any {ks : List (Option Value)} {i : Nat} {v : Value} {w : World} (h : ks[i]? = some none) : Vv ks i v w := fun x hx => by rw [h] at hx; cases hx
theorem Vv.eq {ks : List (Option Value)} {i : Nat} {u v : Value} {w : World} (hV : Vv ks i v w) (h : ks[i]? = some (some u)) : v = u := hV u h
end Go.Proofs.Ytpefdmkfmcjfnaa.Dr

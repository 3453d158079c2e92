/-
  The program's iterator over the frames of a text.
-/
import Derived.Test.YtkfienjlmnbonaaFrBegin
import Derived.Test.YtkfienjlmnbonaaFrRefN
import Derived.Test.YtkfienjlmnbonaaSeq
import Derived.Test.YtkfienjlmnbonaaUp
namespace Go.Proofs.Ytkfienjlmnbonaa.Fr
open Go.RowKit Go.Sort Go.Shelf Go.Proofs.Ytkfienjlmnbonaa.Mem Go.Proofs.Ytkfienjlmnbonaa.Route Go.Proofs.Ytkfienjlmnbonaa.Oct
set_option linter.unusedVariables false

attribute [local go_sem] Oper.semAt_some

def encF (f : Fd) : Array Value := #[.agg #[.int .i64 (f.k : Int), .string (str f.body), .string (str f.rest)]]
def fdC : Option Fd → List Value
  | some f => [.int .i64 (f.k : Int), .string (str f.body), .string (str f.rest)]
  | none => [.int .i64 0, .string ⟨#[]⟩, .string ⟨#[]⟩]
def restN (W : World) (g : Nat) : Nat := match W.cell? ⟨g, 2, none⟩ with | some (.string s) => s.size | _ => 0
def boolN : Value → Nat
  | .bool true => 1
  | _ => 0
theorem grown_of {A A' : World} (h : Below A.heap.size A A') : A.grownBy A' none := ⟨h.os, h.tape, h.output, h.size, fun k hk _ => h.block k hk⟩
theorem seqOld {β : Type} {B : Nat} {J : β → World → Prop} (hJ : Seq.Old B J) {s : β} {A A' : World} (hs : J s A) (h : Below A.heap.size A A') : J s A' := hJ s A A' none hs (grown_of h) (fun r e => by cases e)
theorem upOld {β : Type} {B : Nat} {J : β → World → Prop} (hJ : Up.Old B J) {s : β} {A A' : World} (hs : J s A) (h : Below A.heap.size A A') : J s A' := hJ s A A' none hs (grown_of h) (fun r e => by cases e)
theorem cell0 {w : World} {g : Nat} {t : TypeId} {x y z : Value} (h : AtL w g t [x, y, z]) : w.cell? ⟨g, 0, none⟩ = some x := h.get rfl
theorem cell1 {w : World} {g : Nat} {t : TypeId} {x y z : Value} (h : AtL w g t [x, y, z]) : w.cell? ⟨g, 1, none⟩ = some y := h.get rfl
theorem cell2 {w : World} {g : Nat} {t : TypeId} {x y z : Value} (h : AtL w g t [x, y, z]) : w.cell? ⟨g, 2, none⟩ = some z := h.get rfl

theorem fd_open (F : Option Fd) : ∃ (n : Int) (a b : ByteArray), fdV F = .agg #[.int .i64 n, .string a, .string b] ∧ fdC F = [.int .i64 n, .string a, .string b] := by
  cases F with
  | none => exact ⟨_, _, _, rfl, rfl⟩
  | some f => exact ⟨_, _, _, rfl, rfl⟩
set_option maxRecDepth 100000 in
set_option maxHeartbeats 4000000 in
/-- Where each round goes on, all frames come. -/
theorem frames_gives (s r : Bs) (l : List Fd) (hrun : Run s l r) (hs : s.length ≤ 9223372036854775807) (Bs B : Nat) (I : List Fd → World → Prop) (hI : ∀ p W, I p W → At W Bs 9 #[.string (str s)]) :
    Seq.Gives Try.prog 19 #[.pointer (some ⟨Bs, 0, none⟩)] encF l B I := by
  intro lp J W hWB h0 hJ hJI hY
  refine callsIn_of_wp Try.func19 rfl trivial ?_ rfl
  simp only [Try.ntmps19, List.size_toArray, List.length_cons, List.length_nil, Nat.reduceAdd, Nat.reduceSub, Array.replicate_succ, Array.replicate_zero, List.push_toArray, List.append_toArray, List.nil_append, List.cons_append]
  have hA := hI _ _ (hJI _ _ h0)
  have a0 := hA.cell 0
  simp at a0
  have hY' := Lib.hid hY
  have hrun' := Lib.hid hrun
  have hJ' := Lib.hid hJ
  clear hY hrun hI hJI hJ
  gi_wp2_with fail
  refine ⟨trivial, ?_⟩
  obtain ⟨xn, ya, zb, hx, hx2⟩ := fd_open (front s)
  have hbeg := begin_any s hs W
  rw [hx] at hbeg
  refine (callsIn_wide.2 hbeg).mono ?_
  clear hbeg
  rintro e W1 ⟨rfl, hb1⟩
  obtain ⟨Bf, hBf⟩ : ∃ Bf, W1.heap.size = Bf := ⟨_, rfl⟩
  have hfB : B ≤ Bf := by have := hb1.size; omega
  have hF : AtL (W1.alloc (.cells #[.int .i64 xn, .string ya, .string zb] 49)) Bf 49 (fdC (front s)) := by rw [hx2, ← hBf]; exact AtL.new W1 49 [.int .i64 xn, .string ya, .string zb]
  have hj1 := seqOld hJ'.out (seqOld hJ'.out h0 hb1) ((Below.refl _ _).alloc (Nat.le_refl _) (.cells #[.int .i64 xn, .string ya, .string zb] 49))
  replace hF := Lib.hid hF
  replace hj1 := Lib.hid hj1
  replace hx2 := Lib.hid hx2
  replace hx := Lib.hid hx
  clear h0 hA
  gi_wp2_with fail
  gi_loopw [4] (fun c wr => ∃ (pre m : List Fd) (cur : Oct.Bs), c = .bool (front cur).isSome ∧ Hid (AtL wr Bf 49 (fdC (front cur))) ∧ Hid (J pre wr) ∧ Hid (Run cur m r) ∧ Hid (l = pre ++ m) ∧ cur.length ≤ 9223372036854775807)
    (fun c wr => restN wr Bf + boolN c)
  case atStart => exact ⟨[], l, s, rfl, hF, hj1, hrun', Lib.hid rfl, hs⟩
  case round =>
    clear hF hj1 hrun' hx hx2
    obtain ⟨pre, m, cur, rfl, hF, hj, hrun, hl, hc⟩ := hrel
    cases hf : front cur with
    | none =>
      obtain ⟨rfl, rfl⟩ := hrun.out.none_of hf
      have hfin := Lib.hid (show J l wr by rw [hl.out, List.append_nil]; exact hj.out)
      clear hF hj hrun hl hf
      simp only [Option.isSome_none]
      gi_wp2_with fail
      refine ⟨fun _ h => (by cases h), ?_⟩
      gi_wp2
      go_end0
      exact ⟨⟨_, rfl⟩, hfin.out⟩
    | some f =>
      obtain ⟨m', rfl, hrun2⟩ := hrun.out.some_of hf
      have hrl := rest_length hf
      rw [hf] at hF
      have c0 := cell0 hF.out
      have c1 := cell1 hF.out
      have c2 := cell2 hF.out
      have hwr : B ≤ wr.heap.size := by have := At.inside hF.out; omega
      obtain ⟨fn, tmps, assign, body, hyy, hR⟩ := hY'.out 1 _ f wr hj.out (by rw [hl.out]; simp) hwr
      dsimp only [encF] at hyy
      have hl2 := Lib.hid (show l = (pre ++ [f]) ++ m' by rw [hl.out]; simp)
      have hrl2 := Lib.hid hrl
      have hrun3 := Lib.hid hrun2
      have hfr : f.rest.length ≤ 9223372036854775807 := by omega
      have hms : restN wr Bf = f.rest.length := by simp [restN, c2, str_len]
      have hms2 := Lib.hid hms
      simp only [Option.isSome_some]
      clear hf hrl hrun hrun2 hl hms
      gi_wp2
      refine hR.mono ?_
      clear hR hyy
      rintro e W3 ⟨rfl, hJ3, hk3⟩
      have hF3 : AtL W3 Bf 49 (fdC (some f)) := (hk3.same Bf hfB (At.inside hF.out)).trans hF.out
      have d2 := cell2 hF3
      clear c0 c1 c2 hF hj
      gi_wp2_with fail
      refine ⟨trivial, ?_⟩
      obtain ⟨xn, ya, zb, hx, hx2⟩ := fd_open (front f.rest)
      have hbeg := begin_any f.rest hfr W3
      rw [hx] at hbeg
      refine (callsIn_wide.2 hbeg).mono ?_
      clear hbeg
      rintro e W4 ⟨rfl, hb4⟩
      have hJ4 := seqOld hJ'.out hJ3 hb4
      have hF4 := hF3.on hb4
      have e0 := cell0 hF4
      have e1 := cell1 hF4
      have e2 := cell2 hF4
      have f0 := hF4.free 0
      have f1 := hF4.free 1
      have f2 := hF4.free 2
      have hJ5 := Lib.hid (hJ'.out.set (hJ'.out.set (hJ'.out.set hJ4 hfB (i := 0) (.int .i64 xn)) hfB (i := 1) (.string ya)) hfB (i := 2) (.string zb))
      have hF5 := Lib.hid (show AtL (((W4.setCell ⟨Bf, 0, none⟩ (.int .i64 xn)).setCell ⟨Bf, 1, none⟩ (.string ya)).setCell ⟨Bf, 2, none⟩ (.string zb)) Bf 49 (fdC (front f.rest)) by rw [hx2]; exact ((hF4.put 0 _).put 1 _).put 2 _)
      replace hx2 := Lib.hid hx2
      clear hx hJ3 hJ4 hF3 hF4 hb4 hk3 d2
      gi_wp2
      go_roundw
      case rel => exact ⟨pre ++ [f], m', f.rest, rfl, hF5, hJ5, hrun3, hl2, hfr⟩
      case measure =>
        rw [hms2.out]
        have hz := cell2 (x := .int .i64 xn) (y := .string ya) (z := .string zb) (hx2.out ▸ hF5.out)
        cases hfr2 : front f.rest with
        | none =>
          rw [hfr2] at hx2
          have := hx2.out
          simp [fdC] at this
          obtain ⟨rfl, rfl, rfl⟩ := this
          simp [restN, hz, boolN]
          show 0 < _
          omega
        | some g =>
          rw [hfr2] at hx2
          have := hx2.out
          have hg := rest_length hfr2
          simp [fdC] at this
          obtain ⟨rfl, rfl, rfl⟩ := this
          simp [restN, hz, boolN, str_len]
          omega

set_option maxRecDepth 100000 in
set_option maxHeartbeats 4000000 in
/-- Where no round goes on, the first one comes alone. -/
theorem frames_runs (s : Oct.Bs) (hs : s.length ≤ 9223372036854775807) (Bs B : Nat) (I : List Fd → World → Prop) (hI : ∀ p W, I p W → At W Bs 9 #[.string (str s)]) :
    Up.Runs Try.prog 19 #[] #[.pointer (some ⟨Bs, 0, none⟩)] encF (fun _ => false) (front s).toList B I := by
  intro lp J W hWB h0 hJ hJI hY
  refine callsIn_of_wp Try.func19 rfl trivial ?_ rfl
  simp only [Try.ntmps19, List.size_toArray, List.length_cons, List.length_nil, Nat.reduceAdd, Nat.reduceSub, Array.replicate_succ, Array.replicate_zero, List.push_toArray, List.append_toArray, List.nil_append, List.cons_append]
  have hA := hI _ _ (hJI _ _ h0)
  have a0 := hA.cell 0
  simp at a0
  have hY' := Lib.hid hY
  have hJ' := Lib.hid hJ
  clear hY hI hJI hJ
  gi_wp2_with fail
  refine ⟨trivial, ?_⟩
  obtain ⟨xn, ya, zb, hx, hx2⟩ := fd_open (front s)
  have hbeg := begin_any s hs W
  rw [hx] at hbeg
  refine (callsIn_wide.2 hbeg).mono ?_
  clear hbeg
  rintro e W1 ⟨rfl, hb1⟩
  obtain ⟨Bf, hBf⟩ : ∃ Bf, W1.heap.size = Bf := ⟨_, rfl⟩
  have hfB : B ≤ Bf := by have := hb1.size; omega
  have hF : AtL (W1.alloc (.cells #[.int .i64 xn, .string ya, .string zb] 49)) Bf 49 (fdC (front s)) := by rw [hx2, ← hBf]; exact AtL.new W1 49 [.int .i64 xn, .string ya, .string zb]
  have hj1 := upOld hJ'.out (upOld hJ'.out h0 hb1) ((Below.refl _ _).alloc (Nat.le_refl _) (.cells #[.int .i64 xn, .string ya, .string zb] 49))
  replace hF := Lib.hid hF
  replace hj1 := Lib.hid hj1
  replace hx2 := Lib.hid hx2
  replace hx := Lib.hid hx
  clear h0 hA
  gi_wp2_with fail
  gi_loopw [4] (fun c wr => c = .bool (front s).isSome ∧ Hid (AtL wr Bf 49 (fdC (front s))) ∧ Hid (J [] wr))
    (fun c wr => 0)
  case atStart => exact ⟨rfl, hF, hj1⟩
  case round =>
    clear hF hj1 hx hx2
    obtain ⟨rfl, hF, hj⟩ := hrel
    obtain ⟨F, hFe⟩ : ∃ F, front s = F := ⟨_, rfl⟩
    rw [hFe] at hF ⊢
    cases F with
    | none =>
      have hfin := Lib.hid (show J (Up.upTo (fun _ => false) (front s).toList) wr by rw [hFe]; exact hj.out)
      clear hF hj hFe
      simp only [Option.isSome_none]
      gi_wp2_with fail
      refine ⟨fun _ h => (by cases h), ?_⟩
      gi_wp2
      go_end0
      exact ⟨⟨_, rfl⟩, hfin.out⟩
    | some f =>
      have c0 := cell0 hF.out
      have c1 := cell1 hF.out
      have c2 := cell2 hF.out
      have hwr : B ≤ wr.heap.size := by have := At.inside hF.out; omega
      obtain ⟨fn, tmps, assign, body, hyy, hR⟩ := hY'.out 1 _ f wr hj.out (fun y hy => by cases hy) hwr
      dsimp only [encF] at hyy
      simp only [Option.isSome_some]
      have hFe' := Lib.hid hFe
      clear hFe
      gi_wp2
      refine hR.mono ?_
      clear hR hyy
      rintro e W3 ⟨rfl, hJ3, hk3⟩
      have hfin := Lib.hid (show J (Up.upTo (fun _ => false) (front s).toList) W3 by rw [hFe'.out]; exact hJ3)
      clear c0 c1 c2 hF hj hk3 hJ3
      gi_wp2
      go_end0
      exact ⟨⟨_, rfl⟩, hfin.out⟩

end Go.Proofs.Ytkfienjlmnbonaa.Fr

import Derived.Test.YtpefdmkfmcjfnaaPkSchedAll

namespace Go.Proofs.Ytpefdmkfmcjfnaa.Mp
open Go.RowKit Go.Sort Go.Proofs.Ytpefdmkfmcjfnaa.Mem Go.Proofs.Ytpefdmkfmcjfnaa.Route Go.Proofs.Ytpefdmkfmcjfnaa.Oct
set_option linter.unusedVariables false
def VX (ks : List Value) (i : Nat) (v : Value) (w : World) : Prop := ∀ u, ks[i]? = some u → v = u
theorem VX.of {ks : List Value} {i : Nat} {u v : Value} {w : World} (h : ks[i]? = some u) (e : v = u) : VX ks i v w := fun u' hu => by rw [h] at hu; cases hu; exact e
theorem grown_refl (w : World) (r : Nat) : w.grownBy w (some r) := ⟨rfl, rfl, rfl, Nat.le_refl _, fun _ _ _ => rfl⟩
theorem grown_drew (w : World) (r : Nat) : w.grownBy { w with drawn := w.drawn + 1 } (some r) := ⟨rfl, rfl, rfl, Nat.le_refl _, fun _ _ _ => rfl⟩
theorem grown_trans {a b c : World} {r : Nat} (h : a.grownBy b (some r)) (k : b.grownBy c (some r)) : a.grownBy c (some r) :=
 ⟨k.os.trans h.os, k.tape.trans h.tape, k.output.trans h.output, Nat.le_trans h.size k.size, fun j hj hr => (k.block j (Nat.lt_of_lt_of_le hj h.size) hr).trans (h.block j hj hr)⟩
theorem gcell {w v : World} {r g i : Nat} (h : w.grownBy v (some r)) (hg : g < w.heap.size) (hne : g ≠ r) : v.cell? ⟨g, i, none⟩ = w.cell? ⟨g, i, none⟩ := World.cell?_of_block (h.block g hg (by simpa using hne))
theorem atL_grown {w v : World} {g r : Nat} {t : TypeId} {cs : List Value} (h : AtL w g t cs) (hg : w.grownBy v (some r)) (hne : g ≠ r) : AtL v g t cs := (hg.block g h.inside (by simpa using hne)).trans h
structure Two (a b : Nat) (w w' : World) : Prop where
 os : w'.os = w.os
 tape : w'.tape = w.tape
 output : w'.output = w.output
 size : w.heap.size ≤ w'.heap.size
 block : ∀ k, k < w.heap.size → k ≠ a → k ≠ b → w'.heap[k]? = w.heap[k]?
theorem Two.refl (a b : Nat) (w : World) : Two a b w w := ⟨rfl, rfl, rfl, Nat.le_refl _, fun _ _ _ _ => rfl⟩
theorem Two.trans {a b : Nat} {u v w : World} (h : Two a b u v) (k : Two a b v w) : Two a b u w :=
 ⟨k.os.trans h.os, k.tape.trans h.tape, k.output.trans h.output, Nat.le_trans h.size k.size, fun j hj ha hb => (k.block j (Nat.lt_of_lt_of_le hj h.size) ha hb).trans (h.block j hj ha hb)⟩
theorem Two.of_grown {a b : Nat} {w v : World} (h : w.grownBy v (some a)) : Two a b w v := ⟨h.os, h.tape, h.output, h.size, fun k hk ha _ => h.block k hk (by simpa using ha)⟩
theorem Two.of_below {a b : Nat} {w v : World} (h : Below w.heap.size w v) : Two a b w v := ⟨h.os, h.tape, h.output, h.size, fun k hk _ _ => h.block k hk⟩
theorem Two.set (a b : Nat) (w : World) (i : Nat) (x : Value) : Two a b w (w.setCell ⟨b, i, none⟩ x) := ⟨rfl, rfl, rfl, by simp [World.setCell], fun k _ _ hb => Below.heap_setCell w _ x k (by simpa using hb)⟩
def RdIf (r : Nat) (a b : St) (c : Bool) (W : World) : Prop := RdAt W r (if c then a else b)
def WrIf (r : Nat) (a b : Bs) (c : Bool) (W : World) : Prop := WrAt W r (if c then a else b)
set_option maxRecDepth 100000 in
set_option maxHeartbeats 8000000 in
theorem rfieldI (r : Nat) (st : St) (g o : Nat) (t : TypeId) (cs : List Value) (n : Int) (N : Nat) (hc : IntKind.u64.wrap n = (N : Int)) (k : Int) (w : World) (hl : ∀ l, st = some l → l.length ≤ 9223372036854775000) (h : RdAt w r st) (hA : AtL w g t cs) (hv : cs[o]? = some (.int .i64 n)) (hgr : g ≠ r) :
 Calls Try.prog 38 #[.iface 106 (.agg #[.pointer (some ⟨r, 0, none⟩)]), .pointer (some ⟨g, o, none⟩), .int .i64 k] w fun e w' => e = .returned (.tuple #[]) ∧ RdAt w' r (numS st k).2 ∧ AtL w' g t (cs.set o (.int .i64 (wrap64 ((numS st k).1 : Int)))) ∧ Two r g w w' := by
 have hgi := hA.inside
 have c0 := hA.get hv
 have hcall := Lib.hid (fun (n : Int) W (h : RdAt W r st) => rtell_any r st n k W hl h)
 obtain ⟨U, hU⟩ : ∃ U, (numS st k).1 = U := ⟨_, rfl⟩
 obtain ⟨S, hS⟩ : ∃ S, (numS st k).2 = S := ⟨_, rfl⟩
 rw [hS, hU]
 simp only [hS, hU] at hcall
 clear hS hU hl
 replace hA := Lib.hid hA
 replace h := Lib.hid h
 go_enter Try.func38, Try.ntmps38
 go_upto_region 0 with fail
 refine Sched.wp_region_sched 12 (fun W W' => W.grownBy W' (some r)) (VX [.pointer (some ⟨g, o, none⟩), .iface 106 (.agg #[.pointer (some ⟨r, 0, none⟩)]), .pointer (some ⟨g, o, none⟩), .pointer (some ⟨g, o, none⟩), .int .i64 n, .int .u64 (N : Int), .int .i64 k, .func (.method "consign/msg.tell") #[.iface 106 (.agg #[.pointer (some ⟨r, 0, none⟩)])] #[], .func (.method "consign/msg.tell") #[.iface 106 (.agg #[.pointer (some ⟨r, 0, none⟩)])] #[], .iface 106 (.agg #[.pointer (some ⟨r, 0, none⟩)]), .int .u64 (U : Int), .int .i64 (wrap64 (U : Int))]) (fun done _ W => RdIf r S st (done 10) W) (by kernel_rfl) (by kernel_rfl) (by kernel_rfl) (fun h1 h2 => grown_trans h1 h2) (fun h _ => h) (grown_drew _ _) (fun _ => h.out) (Sched.StepsA.steps (by kernel_rfl) ?hS) ?hQ
 case hS =>
  simp only [List.take_succ_cons, List.take_zero]
  refine ⟨?_, ?_, ?_, ?_, ?_, ?_, ?_, ?_, ?_, ?_, ?_, ?_, trivial⟩
  · intro ys done W aa hE hn hF hD hZ hG hO
    replace hE : w.grownBy W (some r) := hE
    have o1 := hO 1 (by kernel_rfl)
    replace o1 : aa.tmps[1]? = some (.pointer (some ⟨g, o, none⟩)) := o1
    replace hZ : RdIf r S st (done 10) W := hZ
    replace hZ := Lib.hid hZ
    replace hE := Lib.hid hE
    clear c0
    go_wp2_with fail
    first | exact ⟨_, rfl, grown_refl _ _, VX.of rfl rfl, hZ.out⟩ | (rename_i hK; exact hK _ _ ⟨_, rfl, grown_refl _ _, VX.of rfl rfl, hZ.out⟩) | trace_state
  · intro ys done W aa hE hn hF hD hZ hG hO
    replace hE : w.grownBy W (some r) := hE
    have o0 := hO 0 (by kernel_rfl)
    replace o0 : aa.tmps[0]? = some (.iface 106 (.agg #[.pointer (some ⟨r, 0, none⟩)])) := o0
    replace hZ : RdIf r S st (done 10) W := hZ
    replace hZ := Lib.hid hZ
    replace hE := Lib.hid hE
    clear c0
    go_wp2_with fail
    first | exact ⟨_, rfl, grown_refl _ _, VX.of rfl rfl, hZ.out⟩ | (rename_i hK; exact hK _ _ ⟨_, rfl, grown_refl _ _, VX.of rfl rfl, hZ.out⟩) | trace_state
  · intro ys done W aa hE hn hF hD hZ hG hO
    replace hE : w.grownBy W (some r) := hE
    have o1 := hO 1 (by kernel_rfl)
    replace o1 : aa.tmps[1]? = some (.pointer (some ⟨g, o, none⟩)) := o1
    replace hZ : RdIf r S st (done 10) W := hZ
    replace hZ := Lib.hid hZ
    replace hE := Lib.hid hE
    clear c0
    go_wp2_with fail
    first | exact ⟨_, rfl, grown_refl _ _, VX.of rfl rfl, hZ.out⟩ | (rename_i hK; exact hK _ _ ⟨_, rfl, grown_refl _ _, VX.of rfl rfl, hZ.out⟩) | trace_state
  · intro ys done W aa hE hn hF hD hZ hG hO
    replace hE : w.grownBy W (some r) := hE
    have v2 : ys 2 = .pointer (some ⟨g, o, none⟩) := hF 2 (by decide) (hD 2 (by kernel_rfl)) _ rfl
    have g2 := hG 2 8 rfl (Nat.le_of_ble_eq_true rfl)
    rw [v2] at g2
    replace hZ : RdIf r S st (done 10) W := hZ
    replace hZ := Lib.hid hZ
    replace hE := Lib.hid hE
    clear c0
    go_wp2_with fail
    first | exact ⟨_, rfl, grown_refl _ _, VX.of rfl rfl, hZ.out⟩ | (rename_i hK; exact hK _ _ ⟨_, rfl, grown_refl _ _, VX.of rfl rfl, hZ.out⟩) | trace_state
  · intro ys done W aa hE hn hF hD hZ hG hO
    replace hE : w.grownBy W (some r) := hE
    have v3 : ys 3 = .pointer (some ⟨g, o, none⟩) := hF 3 (by decide) (hD 3 (by kernel_rfl)) _ rfl
    have g3 := hG 3 9 rfl (Nat.le_of_ble_eq_true rfl)
    rw [v3] at g3
    have d0 := (gcell (i := o) hE hgi hgr).trans c0
    replace hZ : RdIf r S st (done 10) W := hZ
    replace hZ := Lib.hid hZ
    replace hE := Lib.hid hE
    clear c0
    go_wp2_with fail
    first | exact ⟨_, rfl, grown_refl _ _, VX.of rfl rfl, hZ.out⟩ | (rename_i hK; exact hK _ _ ⟨_, rfl, grown_refl _ _, VX.of rfl rfl, hZ.out⟩) | trace_state
  · intro ys done W aa hE hn hF hD hZ hG hO
    replace hE : w.grownBy W (some r) := hE
    have v4 : ys 4 = .int .i64 n := hF 4 (by decide) (hD 4 (by kernel_rfl)) _ rfl
    have g4 := hG 4 10 rfl (Nat.le_of_ble_eq_true rfl)
    rw [v4] at g4
    replace hZ : RdIf r S st (done 10) W := hZ
    replace hZ := Lib.hid hZ
    replace hE := Lib.hid hE
    go_wp2_with fail
    first | exact ⟨_, rfl, grown_refl _ _, VX.of rfl rfl, hZ.out⟩ | (rename_i hK; exact hK _ _ ⟨_, rfl, grown_refl _ _, VX.of rfl rfl, hZ.out⟩) | trace_state
  · intro ys done W aa hE hn hF hD hZ hG hO
    replace hE : w.grownBy W (some r) := hE
    have o2 := hO 2 (by kernel_rfl)
    replace o2 : aa.tmps[2]? = some (.int .i64 k) := o2
    replace hZ : RdIf r S st (done 10) W := hZ
    replace hZ := Lib.hid hZ
    replace hE := Lib.hid hE
    clear c0
    go_wp2_with fail
    first | exact ⟨_, rfl, grown_refl _ _, VX.of rfl rfl, hZ.out⟩ | (rename_i hK; exact hK _ _ ⟨_, rfl, grown_refl _ _, VX.of rfl rfl, hZ.out⟩) | trace_state
  · intro ys done W aa hE hn hF hD hZ hG hO
    replace hE : w.grownBy W (some r) := hE
    have v1 : ys 1 = .iface 106 (.agg #[.pointer (some ⟨r, 0, none⟩)]) := hF 1 (by decide) (hD 1 (by kernel_rfl)) _ rfl
    have g1 := hG 1 7 rfl (Nat.le_of_ble_eq_true rfl)
    rw [v1] at g1
    replace hZ : RdIf r S st (done 10) W := hZ
    replace hZ := Lib.hid hZ
    replace hE := Lib.hid hE
    clear c0
    go_wp2_with fail
    first | exact ⟨_, rfl, grown_refl _ _, VX.of rfl rfl, hZ.out⟩ | (rename_i hK; exact hK _ _ ⟨_, rfl, grown_refl _ _, VX.of rfl rfl, hZ.out⟩) | trace_state
  · intro ys done W aa hE hn hF hD hZ hG hO
    replace hE : w.grownBy W (some r) := hE
    have v7 : ys 7 = .func (.method "consign/msg.tell") #[.iface 106 (.agg #[.pointer (some ⟨r, 0, none⟩)])] #[] := hF 7 (by decide) (hD 7 (by kernel_rfl)) _ rfl
    have g7 := hG 7 13 rfl (Nat.le_of_ble_eq_true rfl)
    rw [v7] at g7
    replace hZ : RdIf r S st (done 10) W := hZ
    replace hZ := Lib.hid hZ
    replace hE := Lib.hid hE
    clear c0
    go_wp2_with fail
    first | exact ⟨_, rfl, grown_refl _ _, VX.of rfl rfl, hZ.out⟩ | (rename_i hK; exact hK _ _ ⟨_, rfl, grown_refl _ _, VX.of rfl rfl, hZ.out⟩) | trace_state
  · intro ys done W aa hE hn hF hD hZ hG hO
    replace hE : w.grownBy W (some r) := hE
    have v1 : ys 1 = .iface 106 (.agg #[.pointer (some ⟨r, 0, none⟩)]) := hF 1 (by decide) (hD 1 (by kernel_rfl)) _ rfl
    have g1 := hG 1 7 rfl (Nat.le_of_ble_eq_true rfl)
    rw [v1] at g1
    replace hZ : RdIf r S st (done 10) W := hZ
    replace hZ := Lib.hid hZ
    replace hE := Lib.hid hE
    clear c0
    go_wp2_with fail
    first | exact ⟨_, rfl, grown_refl _ _, VX.of rfl rfl, hZ.out⟩ | (rename_i hK; exact hK _ _ ⟨_, rfl, grown_refl _ _, VX.of rfl rfl, hZ.out⟩) | trace_state
  · intro ys done W aa hE hn hF hD hZ hG hO
    replace hE : w.grownBy W (some r) := hE
    have v5 : ys 5 = .int .u64 (N : Int) := hF 5 (by decide) (hD 5 (by kernel_rfl)) _ rfl
    have g5 := hG 5 11 rfl (Nat.le_of_ble_eq_true rfl)
    rw [v5] at g5
    have v6 : ys 6 = .int .i64 k := hF 6 (by decide) (hD 6 (by kernel_rfl)) _ rfl
    have g6 := hG 6 12 rfl (Nat.le_of_ble_eq_true rfl)
    rw [v6] at g6
    have v9 : ys 9 = .iface 106 (.agg #[.pointer (some ⟨r, 0, none⟩)]) := hF 9 (by decide) (hD 9 (by kernel_rfl)) _ rfl
    have g9 := hG 9 15 rfl (Nat.le_of_ble_eq_true rfl)
    rw [v9] at g9
    replace hZ : RdAt W r st := by rw [show done 10 = false from hn] at hZ; exact hZ
    replace hZ := Lib.hid hZ
    replace hE := Lib.hid hE
    clear c0
    go_wp2_with fail
    refine (hcall.out _ W hZ.out).mono ?_
    rintro e W' ⟨rfl, hR', hb'⟩
    replace hR' := Lib.hid hR'
    replace hb' := Lib.hid hb'
    go_wp2_with fail
    exact ⟨_, rfl, hb'.out, VX.of rfl rfl, hR'.out⟩
  · intro ys done W aa hE hn hF hD hZ hG hO
    replace hE : w.grownBy W (some r) := hE
    have v10 : ys 10 = .int .u64 (U : Int) := hF 10 (by decide) (hD 10 (by kernel_rfl)) _ rfl
    have g10 := hG 10 16 rfl (Nat.le_of_ble_eq_true rfl)
    rw [v10] at g10
    replace hZ : RdIf r S st (done 10) W := hZ
    replace hZ := Lib.hid hZ
    replace hE := Lib.hid hE
    go_wp2_with fail
    first | exact ⟨_, rfl, grown_refl _ _, VX.of rfl rfl, hZ.out⟩ | (rename_i hK; exact hK _ _ ⟨_, rfl, grown_refl _ _, VX.of rfl rfl, hZ.out⟩) | trace_state
 case hQ =>
  intro ys w6 hE hF hZ
  replace hE : w.grownBy w6 (some r) := hE
  obtain ⟨done, hd, hZ⟩ := hZ
  replace hZ : RdIf r S st (done 10) w6 := hZ
  rw [hd 10 (by decide)] at hZ
  replace hZ : RdAt w6 r S := hZ
  have hA6 := atL_grown hA.out hE hgr
  have hA7 := Lib.hid (hA6.put o (.int .i64 (wrap64 (U : Int))))
  have hT7 := Lib.hid ((Two.of_grown (b := g) hE).trans (Two.set r g w6 o (.int .i64 (wrap64 (U : Int)))))
  have hZ7 := Lib.hid (At.far hZ (Ne.symm hgr) o (.int .i64 (wrap64 (U : Int))))
  have d0 := (gcell (i := o) hE hgi hgr).trans c0
  have f0 := hA6.free o
  have v0 : ys 0 = .pointer (some ⟨g, o, none⟩) := hF 0 (by decide) _ rfl
  have v11 : ys 11 = .int .i64 (wrap64 (U : Int)) := hF 11 (by decide) _ rfl
  simp only [List.take_succ_cons, List.take_zero, List.drop_succ_cons, List.drop_zero, Sched.fill, v0, v11]
  clear hF hE hZ hA6 c0 v0 v11
  go_simp
  go_wp2
  refine bodyPost_end (results_none rfl _ _ _) rfl ?_
  exact ⟨rfl, hZ7.out, hA7.out, hT7.out⟩
set_option maxRecDepth 100000 in
set_option maxHeartbeats 8000000 in
theorem rfieldU (r : Nat) (st : St) (g o : Nat) (t : TypeId) (cs : List Value) (N : Nat) (k : Int) (w : World) (hl : ∀ l, st = some l → l.length ≤ 9223372036854775000) (h : RdAt w r st) (hA : AtL w g t cs) (hv : cs[o]? = some (.int .u64 (N : Int))) (hgr : g ≠ r) :
 Calls Try.prog 42 #[.iface 106 (.agg #[.pointer (some ⟨r, 0, none⟩)]), .pointer (some ⟨g, o, none⟩), .int .i64 k] w fun e w' => e = .returned (.tuple #[]) ∧ RdAt w' r (numS st k).2 ∧ AtL w' g t (cs.set o (.int .u64 ((numS st k).1 : Int))) ∧ Two r g w w' := by
 have hgi := hA.inside
 have c0 := hA.get hv
 have hcall := Lib.hid (fun (n : Int) W (h : RdAt W r st) => rtell_any r st n k W hl h)
 obtain ⟨U, hU⟩ : ∃ U, (numS st k).1 = U := ⟨_, rfl⟩
 obtain ⟨S, hS⟩ : ∃ S, (numS st k).2 = S := ⟨_, rfl⟩
 rw [hS, hU]
 simp only [hS, hU] at hcall
 clear hS hU hl
 replace hA := Lib.hid hA
 replace h := Lib.hid h
 go_enter Try.func42, Try.ntmps42
 go_upto_region 0 with fail
 refine Sched.wp_region_sched 10 (fun W W' => W.grownBy W' (some r)) (VX [.pointer (some ⟨g, o, none⟩), .iface 106 (.agg #[.pointer (some ⟨r, 0, none⟩)]), .pointer (some ⟨g, o, none⟩), .pointer (some ⟨g, o, none⟩), .int .u64 (N : Int), .int .i64 k, .func (.method "consign/msg.tell") #[.iface 106 (.agg #[.pointer (some ⟨r, 0, none⟩)])] #[], .func (.method "consign/msg.tell") #[.iface 106 (.agg #[.pointer (some ⟨r, 0, none⟩)])] #[], .iface 106 (.agg #[.pointer (some ⟨r, 0, none⟩)]), .int .u64 (U : Int)]) (fun done _ W => RdIf r S st (done 9) W) (by kernel_rfl) (by kernel_rfl) (by kernel_rfl) (fun h1 h2 => grown_trans h1 h2) (fun h _ => h) (grown_drew _ _) (fun _ => h.out) (Sched.StepsA.steps (by kernel_rfl) ?hS) ?hQ
 case hS =>
  simp only [List.take_succ_cons, List.take_zero]
  refine ⟨?_, ?_, ?_, ?_, ?_, ?_, ?_, ?_, ?_, ?_, trivial⟩
  · intro ys done W aa hE hn hF hD hZ hG hO
    replace hE : w.grownBy W (some r) := hE
    have o1 := hO 1 (by kernel_rfl)
    replace o1 : aa.tmps[1]? = some (.pointer (some ⟨g, o, none⟩)) := o1
    replace hZ : RdIf r S st (done 9) W := hZ
    replace hZ := Lib.hid hZ
    replace hE := Lib.hid hE
    clear c0
    go_wp2_with fail
    first | exact ⟨_, rfl, grown_refl _ _, VX.of rfl rfl, hZ.out⟩ | (rename_i hK; exact hK _ _ ⟨_, rfl, grown_refl _ _, VX.of rfl rfl, hZ.out⟩) | trace_state
  · intro ys done W aa hE hn hF hD hZ hG hO
    replace hE : w.grownBy W (some r) := hE
    have o0 := hO 0 (by kernel_rfl)
    replace o0 : aa.tmps[0]? = some (.iface 106 (.agg #[.pointer (some ⟨r, 0, none⟩)])) := o0
    replace hZ : RdIf r S st (done 9) W := hZ
    replace hZ := Lib.hid hZ
    replace hE := Lib.hid hE
    clear c0
    go_wp2_with fail
    first | exact ⟨_, rfl, grown_refl _ _, VX.of rfl rfl, hZ.out⟩ | (rename_i hK; exact hK _ _ ⟨_, rfl, grown_refl _ _, VX.of rfl rfl, hZ.out⟩) | trace_state
  · intro ys done W aa hE hn hF hD hZ hG hO
    replace hE : w.grownBy W (some r) := hE
    have o1 := hO 1 (by kernel_rfl)
    replace o1 : aa.tmps[1]? = some (.pointer (some ⟨g, o, none⟩)) := o1
    replace hZ : RdIf r S st (done 9) W := hZ
    replace hZ := Lib.hid hZ
    replace hE := Lib.hid hE
    clear c0
    go_wp2_with fail
    first | exact ⟨_, rfl, grown_refl _ _, VX.of rfl rfl, hZ.out⟩ | (rename_i hK; exact hK _ _ ⟨_, rfl, grown_refl _ _, VX.of rfl rfl, hZ.out⟩) | trace_state
  · intro ys done W aa hE hn hF hD hZ hG hO
    replace hE : w.grownBy W (some r) := hE
    have v2 : ys 2 = .pointer (some ⟨g, o, none⟩) := hF 2 (by decide) (hD 2 (by kernel_rfl)) _ rfl
    have g2 := hG 2 8 rfl (Nat.le_of_ble_eq_true rfl)
    rw [v2] at g2
    replace hZ : RdIf r S st (done 9) W := hZ
    replace hZ := Lib.hid hZ
    replace hE := Lib.hid hE
    clear c0
    go_wp2_with fail
    first | exact ⟨_, rfl, grown_refl _ _, VX.of rfl rfl, hZ.out⟩ | (rename_i hK; exact hK _ _ ⟨_, rfl, grown_refl _ _, VX.of rfl rfl, hZ.out⟩) | trace_state
  · intro ys done W aa hE hn hF hD hZ hG hO
    replace hE : w.grownBy W (some r) := hE
    have v3 : ys 3 = .pointer (some ⟨g, o, none⟩) := hF 3 (by decide) (hD 3 (by kernel_rfl)) _ rfl
    have g3 := hG 3 9 rfl (Nat.le_of_ble_eq_true rfl)
    rw [v3] at g3
    have d0 := (gcell (i := o) hE hgi hgr).trans c0
    replace hZ : RdIf r S st (done 9) W := hZ
    replace hZ := Lib.hid hZ
    replace hE := Lib.hid hE
    clear c0
    go_wp2_with fail
    first | exact ⟨_, rfl, grown_refl _ _, VX.of rfl rfl, hZ.out⟩ | (rename_i hK; exact hK _ _ ⟨_, rfl, grown_refl _ _, VX.of rfl rfl, hZ.out⟩) | trace_state
  · intro ys done W aa hE hn hF hD hZ hG hO
    replace hE : w.grownBy W (some r) := hE
    have o2 := hO 2 (by kernel_rfl)
    replace o2 : aa.tmps[2]? = some (.int .i64 k) := o2
    replace hZ : RdIf r S st (done 9) W := hZ
    replace hZ := Lib.hid hZ
    replace hE := Lib.hid hE
    go_wp2_with fail
    first | exact ⟨_, rfl, grown_refl _ _, VX.of rfl rfl, hZ.out⟩ | (rename_i hK; exact hK _ _ ⟨_, rfl, grown_refl _ _, VX.of rfl rfl, hZ.out⟩) | trace_state
  · intro ys done W aa hE hn hF hD hZ hG hO
    replace hE : w.grownBy W (some r) := hE
    have v1 : ys 1 = .iface 106 (.agg #[.pointer (some ⟨r, 0, none⟩)]) := hF 1 (by decide) (hD 1 (by kernel_rfl)) _ rfl
    have g1 := hG 1 7 rfl (Nat.le_of_ble_eq_true rfl)
    rw [v1] at g1
    replace hZ : RdIf r S st (done 9) W := hZ
    replace hZ := Lib.hid hZ
    replace hE := Lib.hid hE
    clear c0
    go_wp2_with fail
    first | exact ⟨_, rfl, grown_refl _ _, VX.of rfl rfl, hZ.out⟩ | (rename_i hK; exact hK _ _ ⟨_, rfl, grown_refl _ _, VX.of rfl rfl, hZ.out⟩) | trace_state
  · intro ys done W aa hE hn hF hD hZ hG hO
    replace hE : w.grownBy W (some r) := hE
    have v6 : ys 6 = .func (.method "consign/msg.tell") #[.iface 106 (.agg #[.pointer (some ⟨r, 0, none⟩)])] #[] := hF 6 (by decide) (hD 6 (by kernel_rfl)) _ rfl
    have g6 := hG 6 12 rfl (Nat.le_of_ble_eq_true rfl)
    rw [v6] at g6
    replace hZ : RdIf r S st (done 9) W := hZ
    replace hZ := Lib.hid hZ
    replace hE := Lib.hid hE
    clear c0
    go_wp2_with fail
    first | exact ⟨_, rfl, grown_refl _ _, VX.of rfl rfl, hZ.out⟩ | (rename_i hK; exact hK _ _ ⟨_, rfl, grown_refl _ _, VX.of rfl rfl, hZ.out⟩) | trace_state
  · intro ys done W aa hE hn hF hD hZ hG hO
    replace hE : w.grownBy W (some r) := hE
    have v1 : ys 1 = .iface 106 (.agg #[.pointer (some ⟨r, 0, none⟩)]) := hF 1 (by decide) (hD 1 (by kernel_rfl)) _ rfl
    have g1 := hG 1 7 rfl (Nat.le_of_ble_eq_true rfl)
    rw [v1] at g1
    replace hZ : RdIf r S st (done 9) W := hZ
    replace hZ := Lib.hid hZ
    replace hE := Lib.hid hE
    clear c0
    go_wp2_with fail
    first | exact ⟨_, rfl, grown_refl _ _, VX.of rfl rfl, hZ.out⟩ | (rename_i hK; exact hK _ _ ⟨_, rfl, grown_refl _ _, VX.of rfl rfl, hZ.out⟩) | trace_state
  · intro ys done W aa hE hn hF hD hZ hG hO
    replace hE : w.grownBy W (some r) := hE
    have v4 : ys 4 = .int .u64 (N : Int) := hF 4 (by decide) (hD 4 (by kernel_rfl)) _ rfl
    have g4 := hG 4 10 rfl (Nat.le_of_ble_eq_true rfl)
    rw [v4] at g4
    have v5 : ys 5 = .int .i64 k := hF 5 (by decide) (hD 5 (by kernel_rfl)) _ rfl
    have g5 := hG 5 11 rfl (Nat.le_of_ble_eq_true rfl)
    rw [v5] at g5
    have v8 : ys 8 = .iface 106 (.agg #[.pointer (some ⟨r, 0, none⟩)]) := hF 8 (by decide) (hD 8 (by kernel_rfl)) _ rfl
    have g8 := hG 8 14 rfl (Nat.le_of_ble_eq_true rfl)
    rw [v8] at g8
    replace hZ : RdAt W r st := by rw [show done 9 = false from hn] at hZ; exact hZ
    replace hZ := Lib.hid hZ
    replace hE := Lib.hid hE
    clear c0
    go_wp2_with fail
    refine (hcall.out _ W hZ.out).mono ?_
    rintro e W' ⟨rfl, hR', hb'⟩
    replace hR' := Lib.hid hR'
    replace hb' := Lib.hid hb'
    go_wp2_with fail
    exact ⟨_, rfl, hb'.out, VX.of rfl rfl, hR'.out⟩
 case hQ =>
  intro ys w6 hE hF hZ
  replace hE : w.grownBy w6 (some r) := hE
  obtain ⟨done, hd, hZ⟩ := hZ
  replace hZ : RdIf r S st (done 9) w6 := hZ
  rw [hd 9 (by decide)] at hZ
  replace hZ : RdAt w6 r S := hZ
  have hA6 := atL_grown hA.out hE hgr
  have hA7 := Lib.hid (hA6.put o (.int .u64 (U : Int)))
  have hT7 := Lib.hid ((Two.of_grown (b := g) hE).trans (Two.set r g w6 o (.int .u64 (U : Int))))
  have hZ7 := Lib.hid (At.far hZ (Ne.symm hgr) o (.int .u64 (U : Int)))
  have d0 := (gcell (i := o) hE hgi hgr).trans c0
  have f0 := hA6.free o
  have v0 : ys 0 = .pointer (some ⟨g, o, none⟩) := hF 0 (by decide) _ rfl
  have v9 : ys 9 = .int .u64 (U : Int) := hF 9 (by decide) _ rfl
  simp only [List.take_succ_cons, List.take_zero, List.drop_succ_cons, List.drop_zero, Sched.fill, v0, v9]
  clear hF hE hZ hA6 c0 v0 v9
  go_simp
  go_wp2
  refine bodyPost_end (results_none rfl _ _ _) rfl ?_
  exact ⟨rfl, hZ7.out, hA7.out, hT7.out⟩
set_option maxRecDepth 100000 in
set_option maxHeartbeats 8000000 in
theorem rfieldB (r : Nat) (st : St) (g o : Nat) (t : TypeId) (cs : List Value) (n : Int) (N : Nat) (hc : IntKind.u64.wrap n = (N : Int)) (k : Int) (w : World) (hl : ∀ l, st = some l → l.length ≤ 9223372036854775000) (h : RdAt w r st) (hA : AtL w g t cs) (hv : cs[o]? = some (.int .u8 n)) (hgr : g ≠ r) :
 Calls Try.prog 58 #[.iface 106 (.agg #[.pointer (some ⟨r, 0, none⟩)]), .pointer (some ⟨g, o, none⟩), .int .i64 k] w fun e w' => e = .returned (.tuple #[]) ∧ RdAt w' r (numS st k).2 ∧ AtL w' g t (cs.set o (.int .u8 (IntKind.u8.wrap ((numS st k).1 : Int)))) ∧ Two r g w w' := by
 have hgi := hA.inside
 have c0 := hA.get hv
 have hcall := Lib.hid (fun (n : Int) W (h : RdAt W r st) => rtell_any r st n k W hl h)
 obtain ⟨U, hU⟩ : ∃ U, (numS st k).1 = U := ⟨_, rfl⟩
 obtain ⟨S, hS⟩ : ∃ S, (numS st k).2 = S := ⟨_, rfl⟩
 rw [hS, hU]
 simp only [hS, hU] at hcall
 clear hS hU hl
 replace hA := Lib.hid hA
 replace h := Lib.hid h
 go_enter Try.func58, Try.ntmps58
 go_upto_region 0 with fail
 refine Sched.wp_region_sched 12 (fun W W' => W.grownBy W' (some r)) (VX [.pointer (some ⟨g, o, none⟩), .iface 106 (.agg #[.pointer (some ⟨r, 0, none⟩)]), .pointer (some ⟨g, o, none⟩), .pointer (some ⟨g, o, none⟩), .int .u8 n, .int .u64 (N : Int), .int .i64 k, .func (.method "consign/msg.tell") #[.iface 106 (.agg #[.pointer (some ⟨r, 0, none⟩)])] #[], .func (.method "consign/msg.tell") #[.iface 106 (.agg #[.pointer (some ⟨r, 0, none⟩)])] #[], .iface 106 (.agg #[.pointer (some ⟨r, 0, none⟩)]), .int .u64 (U : Int), .int .u8 (IntKind.u8.wrap (U : Int))]) (fun done _ W => RdIf r S st (done 10) W) (by kernel_rfl) (by kernel_rfl) (by kernel_rfl) (fun h1 h2 => grown_trans h1 h2) (fun h _ => h) (grown_drew _ _) (fun _ => h.out) (Sched.StepsA.steps (by kernel_rfl) ?hS) ?hQ
 case hS =>
  simp only [List.take_succ_cons, List.take_zero]
  refine ⟨?_, ?_, ?_, ?_, ?_, ?_, ?_, ?_, ?_, ?_, ?_, ?_, trivial⟩
  · intro ys done W aa hE hn hF hD hZ hG hO
    replace hE : w.grownBy W (some r) := hE
    have o1 := hO 1 (by kernel_rfl)
    replace o1 : aa.tmps[1]? = some (.pointer (some ⟨g, o, none⟩)) := o1
    replace hZ : RdIf r S st (done 10) W := hZ
    replace hZ := Lib.hid hZ
    replace hE := Lib.hid hE
    clear c0
    go_wp2_with fail
    first | exact ⟨_, rfl, grown_refl _ _, VX.of rfl rfl, hZ.out⟩ | (rename_i hK; exact hK _ _ ⟨_, rfl, grown_refl _ _, VX.of rfl rfl, hZ.out⟩) | trace_state
  · intro ys done W aa hE hn hF hD hZ hG hO
    replace hE : w.grownBy W (some r) := hE
    have o0 := hO 0 (by kernel_rfl)
    replace o0 : aa.tmps[0]? = some (.iface 106 (.agg #[.pointer (some ⟨r, 0, none⟩)])) := o0
    replace hZ : RdIf r S st (done 10) W := hZ
    replace hZ := Lib.hid hZ
    replace hE := Lib.hid hE
    clear c0
    go_wp2_with fail
    first | exact ⟨_, rfl, grown_refl _ _, VX.of rfl rfl, hZ.out⟩ | (rename_i hK; exact hK _ _ ⟨_, rfl, grown_refl _ _, VX.of rfl rfl, hZ.out⟩) | trace_state
  · intro ys done W aa hE hn hF hD hZ hG hO
    replace hE : w.grownBy W (some r) := hE
    have o1 := hO 1 (by kernel_rfl)
    replace o1 : aa.tmps[1]? = some (.pointer (some ⟨g, o, none⟩)) := o1
    replace hZ : RdIf r S st (done 10) W := hZ
    replace hZ := Lib.hid hZ
    replace hE := Lib.hid hE
    clear c0
    go_wp2_with fail
    first | exact ⟨_, rfl, grown_refl _ _, VX.of rfl rfl, hZ.out⟩ | (rename_i hK; exact hK _ _ ⟨_, rfl, grown_refl _ _, VX.of rfl rfl, hZ.out⟩) | trace_state
  · intro ys done W aa hE hn hF hD hZ hG hO
    replace hE : w.grownBy W (some r) := hE
    have v2 : ys 2 = .pointer (some ⟨g, o, none⟩) := hF 2 (by decide) (hD 2 (by kernel_rfl)) _ rfl
    have g2 := hG 2 8 rfl (Nat.le_of_ble_eq_true rfl)
    rw [v2] at g2
    replace hZ : RdIf r S st (done 10) W := hZ
    replace hZ := Lib.hid hZ
    replace hE := Lib.hid hE
    clear c0
    go_wp2_with fail
    first | exact ⟨_, rfl, grown_refl _ _, VX.of rfl rfl, hZ.out⟩ | (rename_i hK; exact hK _ _ ⟨_, rfl, grown_refl _ _, VX.of rfl rfl, hZ.out⟩) | trace_state
  · intro ys done W aa hE hn hF hD hZ hG hO
    replace hE : w.grownBy W (some r) := hE
    have v3 : ys 3 = .pointer (some ⟨g, o, none⟩) := hF 3 (by decide) (hD 3 (by kernel_rfl)) _ rfl
    have g3 := hG 3 9 rfl (Nat.le_of_ble_eq_true rfl)
    rw [v3] at g3
    have d0 := (gcell (i := o) hE hgi hgr).trans c0
    replace hZ : RdIf r S st (done 10) W := hZ
    replace hZ := Lib.hid hZ
    replace hE := Lib.hid hE
    clear c0
    go_wp2_with fail
    first | exact ⟨_, rfl, grown_refl _ _, VX.of rfl rfl, hZ.out⟩ | (rename_i hK; exact hK _ _ ⟨_, rfl, grown_refl _ _, VX.of rfl rfl, hZ.out⟩) | trace_state
  · intro ys done W aa hE hn hF hD hZ hG hO
    replace hE : w.grownBy W (some r) := hE
    have v4 : ys 4 = .int .u8 n := hF 4 (by decide) (hD 4 (by kernel_rfl)) _ rfl
    have g4 := hG 4 10 rfl (Nat.le_of_ble_eq_true rfl)
    rw [v4] at g4
    replace hZ : RdIf r S st (done 10) W := hZ
    replace hZ := Lib.hid hZ
    replace hE := Lib.hid hE
    go_wp2_with fail
    first | exact ⟨_, rfl, grown_refl _ _, VX.of rfl rfl, hZ.out⟩ | (rename_i hK; exact hK _ _ ⟨_, rfl, grown_refl _ _, VX.of rfl rfl, hZ.out⟩) | trace_state
  · intro ys done W aa hE hn hF hD hZ hG hO
    replace hE : w.grownBy W (some r) := hE
    have o2 := hO 2 (by kernel_rfl)
    replace o2 : aa.tmps[2]? = some (.int .i64 k) := o2
    replace hZ : RdIf r S st (done 10) W := hZ
    replace hZ := Lib.hid hZ
    replace hE := Lib.hid hE
    clear c0
    go_wp2_with fail
    first | exact ⟨_, rfl, grown_refl _ _, VX.of rfl rfl, hZ.out⟩ | (rename_i hK; exact hK _ _ ⟨_, rfl, grown_refl _ _, VX.of rfl rfl, hZ.out⟩) | trace_state
  · intro ys done W aa hE hn hF hD hZ hG hO
    replace hE : w.grownBy W (some r) := hE
    have v1 : ys 1 = .iface 106 (.agg #[.pointer (some ⟨r, 0, none⟩)]) := hF 1 (by decide) (hD 1 (by kernel_rfl)) _ rfl
    have g1 := hG 1 7 rfl (Nat.le_of_ble_eq_true rfl)
    rw [v1] at g1
    replace hZ : RdIf r S st (done 10) W := hZ
    replace hZ := Lib.hid hZ
    replace hE := Lib.hid hE
    clear c0
    go_wp2_with fail
    first | exact ⟨_, rfl, grown_refl _ _, VX.of rfl rfl, hZ.out⟩ | (rename_i hK; exact hK _ _ ⟨_, rfl, grown_refl _ _, VX.of rfl rfl, hZ.out⟩) | trace_state
  · intro ys done W aa hE hn hF hD hZ hG hO
    replace hE : w.grownBy W (some r) := hE
    have v7 : ys 7 = .func (.method "consign/msg.tell") #[.iface 106 (.agg #[.pointer (some ⟨r, 0, none⟩)])] #[] := hF 7 (by decide) (hD 7 (by kernel_rfl)) _ rfl
    have g7 := hG 7 13 rfl (Nat.le_of_ble_eq_true rfl)
    rw [v7] at g7
    replace hZ : RdIf r S st (done 10) W := hZ
    replace hZ := Lib.hid hZ
    replace hE := Lib.hid hE
    clear c0
    go_wp2_with fail
    first | exact ⟨_, rfl, grown_refl _ _, VX.of rfl rfl, hZ.out⟩ | (rename_i hK; exact hK _ _ ⟨_, rfl, grown_refl _ _, VX.of rfl rfl, hZ.out⟩) | trace_state
  · intro ys done W aa hE hn hF hD hZ hG hO
    replace hE : w.grownBy W (some r) := hE
    have v1 : ys 1 = .iface 106 (.agg #[.pointer (some ⟨r, 0, none⟩)]) := hF 1 (by decide) (hD 1 (by kernel_rfl)) _ rfl
    have g1 := hG 1 7 rfl (Nat.le_of_ble_eq_true rfl)
    rw [v1] at g1
    replace hZ : RdIf r S st (done 10) W := hZ
    replace hZ := Lib.hid hZ
    replace hE := Lib.hid hE
    clear c0
    go_wp2_with fail
    first | exact ⟨_, rfl, grown_refl _ _, VX.of rfl rfl, hZ.out⟩ | (rename_i hK; exact hK _ _ ⟨_, rfl, grown_refl _ _, VX.of rfl rfl, hZ.out⟩) | trace_state
  · intro ys done W aa hE hn hF hD hZ hG hO
    replace hE : w.grownBy W (some r) := hE
    have v5 : ys 5 = .int .u64 (N : Int) := hF 5 (by decide) (hD 5 (by kernel_rfl)) _ rfl
    have g5 := hG 5 11 rfl (Nat.le_of_ble_eq_true rfl)
    rw [v5] at g5
    have v6 : ys 6 = .int .i64 k := hF 6 (by decide) (hD 6 (by kernel_rfl)) _ rfl
    have g6 := hG 6 12 rfl (Nat.le_of_ble_eq_true rfl)
    rw [v6] at g6
    have v9 : ys 9 = .iface 106 (.agg #[.pointer (some ⟨r, 0, none⟩)]) := hF 9 (by decide) (hD 9 (by kernel_rfl)) _ rfl
    have g9 := hG 9 15 rfl (Nat.le_of_ble_eq_true rfl)
    rw [v9] at g9
    replace hZ : RdAt W r st := by rw [show done 10 = false from hn] at hZ; exact hZ
    replace hZ := Lib.hid hZ
    replace hE := Lib.hid hE
    clear c0
    go_wp2_with fail
    refine (hcall.out _ W hZ.out).mono ?_
    rintro e W' ⟨rfl, hR', hb'⟩
    replace hR' := Lib.hid hR'
    replace hb' := Lib.hid hb'
    go_wp2_with fail
    exact ⟨_, rfl, hb'.out, VX.of rfl rfl, hR'.out⟩
  · intro ys done W aa hE hn hF hD hZ hG hO
    replace hE : w.grownBy W (some r) := hE
    have v10 : ys 10 = .int .u64 (U : Int) := hF 10 (by decide) (hD 10 (by kernel_rfl)) _ rfl
    have g10 := hG 10 16 rfl (Nat.le_of_ble_eq_true rfl)
    rw [v10] at g10
    replace hZ : RdIf r S st (done 10) W := hZ
    replace hZ := Lib.hid hZ
    replace hE := Lib.hid hE
    go_wp2_with fail
    first | exact ⟨_, rfl, grown_refl _ _, VX.of rfl rfl, hZ.out⟩ | (rename_i hK; exact hK _ _ ⟨_, rfl, grown_refl _ _, VX.of rfl rfl, hZ.out⟩) | trace_state
 case hQ =>
  intro ys w6 hE hF hZ
  replace hE : w.grownBy w6 (some r) := hE
  obtain ⟨done, hd, hZ⟩ := hZ
  replace hZ : RdIf r S st (done 10) w6 := hZ
  rw [hd 10 (by decide)] at hZ
  replace hZ : RdAt w6 r S := hZ
  have hA6 := atL_grown hA.out hE hgr
  have hA7 := Lib.hid (hA6.put o (.int .u8 (IntKind.u8.wrap (U : Int))))
  have hT7 := Lib.hid ((Two.of_grown (b := g) hE).trans (Two.set r g w6 o (.int .u8 (IntKind.u8.wrap (U : Int)))))
  have hZ7 := Lib.hid (At.far hZ (Ne.symm hgr) o (.int .u8 (IntKind.u8.wrap (U : Int))))
  have d0 := (gcell (i := o) hE hgi hgr).trans c0
  have f0 := hA6.free o
  have v0 : ys 0 = .pointer (some ⟨g, o, none⟩) := hF 0 (by decide) _ rfl
  have v11 : ys 11 = .int .u8 (IntKind.u8.wrap (U : Int)) := hF 11 (by decide) _ rfl
  simp only [List.take_succ_cons, List.take_zero, List.drop_succ_cons, List.drop_zero, Sched.fill, v0, v11]
  clear hF hE hZ hA6 c0 v0 v11
  go_simp
  go_wp2
  refine bodyPost_end (results_none rfl _ _ _) rfl ?_
  exact ⟨rfl, hZ7.out, hA7.out, hT7.out⟩
set_option maxRecDepth 100000 in
set_option maxHeartbeats 8000000 in
theorem wfieldI (r : Nat) (st : Bs) (g o : Nat) (t : TypeId) (cs : List Value) (n : Int) (N : Nat) (hc : IntKind.u64.wrap n = (N : Int)) (k : Int) (w : World) (hN64 : N < 18446744073709551616) (hs : st.length ≤ 281474976710000) (h : WrAt w r st) (hA : AtL w g t cs) (hv : cs[o]? = some (.int .i64 n)) (hgr : g ≠ r) :
 Calls Try.prog 38 #[.iface 73 (.pointer (some ⟨r, 0, none⟩)), .pointer (some ⟨g, o, none⟩), .int .i64 k] w fun e w' => e = .returned (.tuple #[]) ∧ WrAt w' r (putB st N k) ∧ AtL w' g t (cs.set o (.int .i64 (wrap64 (N : Int)))) ∧ Two r g w w' := by
 have hgi := hA.inside
 have c0 := hA.get hv
 have hcall := Lib.hid (fun W (h : WrAt W r st) => wtell_any r st N k W hN64 hs h)
 obtain ⟨U, hU⟩ : ∃ U, N = U := ⟨_, rfl⟩
 obtain ⟨S, hS⟩ : ∃ S, (putB st N k) = S := ⟨_, rfl⟩
 rw [hS]
 simp only [hS] at hcall
 subst hU
 clear hS hs hN64
 replace hA := Lib.hid hA
 replace h := Lib.hid h
 go_enter Try.func38, Try.ntmps38
 go_upto_region 0 with fail
 refine Sched.wp_region_sched 12 (fun W W' => W.grownBy W' (some r)) (VX [.pointer (some ⟨g, o, none⟩), .iface 73 (.pointer (some ⟨r, 0, none⟩)), .pointer (some ⟨g, o, none⟩), .pointer (some ⟨g, o, none⟩), .int .i64 n, .int .u64 (N : Int), .int .i64 k, .func (.method "consign/msg.tell") #[.iface 73 (.pointer (some ⟨r, 0, none⟩))] #[], .func (.method "consign/msg.tell") #[.iface 73 (.pointer (some ⟨r, 0, none⟩))] #[], .iface 73 (.pointer (some ⟨r, 0, none⟩)), .int .u64 (N : Int), .int .i64 (wrap64 (N : Int))]) (fun done _ W => WrIf r S st (done 10) W) (by kernel_rfl) (by kernel_rfl) (by kernel_rfl) (fun h1 h2 => grown_trans h1 h2) (fun h _ => h) (grown_drew _ _) (fun _ => h.out) (Sched.StepsA.steps (by kernel_rfl) ?hS) ?hQ
 case hS =>
  simp only [List.take_succ_cons, List.take_zero]
  refine ⟨?_, ?_, ?_, ?_, ?_, ?_, ?_, ?_, ?_, ?_, ?_, ?_, trivial⟩
  · intro ys done W aa hE hn hF hD hZ hG hO
    replace hE : w.grownBy W (some r) := hE
    have o1 := hO 1 (by kernel_rfl)
    replace o1 : aa.tmps[1]? = some (.pointer (some ⟨g, o, none⟩)) := o1
    replace hZ : WrIf r S st (done 10) W := hZ
    replace hZ := Lib.hid hZ
    replace hE := Lib.hid hE
    clear c0
    go_wp2_with fail
    first | exact ⟨_, rfl, grown_refl _ _, VX.of rfl rfl, hZ.out⟩ | (rename_i hK; exact hK _ _ ⟨_, rfl, grown_refl _ _, VX.of rfl rfl, hZ.out⟩) | trace_state
  · intro ys done W aa hE hn hF hD hZ hG hO
    replace hE : w.grownBy W (some r) := hE
    have o0 := hO 0 (by kernel_rfl)
    replace o0 : aa.tmps[0]? = some (.iface 73 (.pointer (some ⟨r, 0, none⟩))) := o0
    replace hZ : WrIf r S st (done 10) W := hZ
    replace hZ := Lib.hid hZ
    replace hE := Lib.hid hE
    clear c0
    go_wp2_with fail
    first | exact ⟨_, rfl, grown_refl _ _, VX.of rfl rfl, hZ.out⟩ | (rename_i hK; exact hK _ _ ⟨_, rfl, grown_refl _ _, VX.of rfl rfl, hZ.out⟩) | trace_state
  · intro ys done W aa hE hn hF hD hZ hG hO
    replace hE : w.grownBy W (some r) := hE
    have o1 := hO 1 (by kernel_rfl)
    replace o1 : aa.tmps[1]? = some (.pointer (some ⟨g, o, none⟩)) := o1
    replace hZ : WrIf r S st (done 10) W := hZ
    replace hZ := Lib.hid hZ
    replace hE := Lib.hid hE
    clear c0
    go_wp2_with fail
    first | exact ⟨_, rfl, grown_refl _ _, VX.of rfl rfl, hZ.out⟩ | (rename_i hK; exact hK _ _ ⟨_, rfl, grown_refl _ _, VX.of rfl rfl, hZ.out⟩) | trace_state
  · intro ys done W aa hE hn hF hD hZ hG hO
    replace hE : w.grownBy W (some r) := hE
    have v2 : ys 2 = .pointer (some ⟨g, o, none⟩) := hF 2 (by decide) (hD 2 (by kernel_rfl)) _ rfl
    have g2 := hG 2 8 rfl (Nat.le_of_ble_eq_true rfl)
    rw [v2] at g2
    replace hZ : WrIf r S st (done 10) W := hZ
    replace hZ := Lib.hid hZ
    replace hE := Lib.hid hE
    clear c0
    go_wp2_with fail
    first | exact ⟨_, rfl, grown_refl _ _, VX.of rfl rfl, hZ.out⟩ | (rename_i hK; exact hK _ _ ⟨_, rfl, grown_refl _ _, VX.of rfl rfl, hZ.out⟩) | trace_state
  · intro ys done W aa hE hn hF hD hZ hG hO
    replace hE : w.grownBy W (some r) := hE
    have v3 : ys 3 = .pointer (some ⟨g, o, none⟩) := hF 3 (by decide) (hD 3 (by kernel_rfl)) _ rfl
    have g3 := hG 3 9 rfl (Nat.le_of_ble_eq_true rfl)
    rw [v3] at g3
    have d0 := (gcell (i := o) hE hgi hgr).trans c0
    replace hZ : WrIf r S st (done 10) W := hZ
    replace hZ := Lib.hid hZ
    replace hE := Lib.hid hE
    clear c0
    go_wp2_with fail
    first | exact ⟨_, rfl, grown_refl _ _, VX.of rfl rfl, hZ.out⟩ | (rename_i hK; exact hK _ _ ⟨_, rfl, grown_refl _ _, VX.of rfl rfl, hZ.out⟩) | trace_state
  · intro ys done W aa hE hn hF hD hZ hG hO
    replace hE : w.grownBy W (some r) := hE
    have v4 : ys 4 = .int .i64 n := hF 4 (by decide) (hD 4 (by kernel_rfl)) _ rfl
    have g4 := hG 4 10 rfl (Nat.le_of_ble_eq_true rfl)
    rw [v4] at g4
    replace hZ : WrIf r S st (done 10) W := hZ
    replace hZ := Lib.hid hZ
    replace hE := Lib.hid hE
    go_wp2_with fail
    first | exact ⟨_, rfl, grown_refl _ _, VX.of rfl rfl, hZ.out⟩ | (rename_i hK; exact hK _ _ ⟨_, rfl, grown_refl _ _, VX.of rfl rfl, hZ.out⟩) | trace_state
  · intro ys done W aa hE hn hF hD hZ hG hO
    replace hE : w.grownBy W (some r) := hE
    have o2 := hO 2 (by kernel_rfl)
    replace o2 : aa.tmps[2]? = some (.int .i64 k) := o2
    replace hZ : WrIf r S st (done 10) W := hZ
    replace hZ := Lib.hid hZ
    replace hE := Lib.hid hE
    clear c0
    go_wp2_with fail
    first | exact ⟨_, rfl, grown_refl _ _, VX.of rfl rfl, hZ.out⟩ | (rename_i hK; exact hK _ _ ⟨_, rfl, grown_refl _ _, VX.of rfl rfl, hZ.out⟩) | trace_state
  · intro ys done W aa hE hn hF hD hZ hG hO
    replace hE : w.grownBy W (some r) := hE
    have v1 : ys 1 = .iface 73 (.pointer (some ⟨r, 0, none⟩)) := hF 1 (by decide) (hD 1 (by kernel_rfl)) _ rfl
    have g1 := hG 1 7 rfl (Nat.le_of_ble_eq_true rfl)
    rw [v1] at g1
    replace hZ : WrIf r S st (done 10) W := hZ
    replace hZ := Lib.hid hZ
    replace hE := Lib.hid hE
    clear c0
    go_wp2_with fail
    first | exact ⟨_, rfl, grown_refl _ _, VX.of rfl rfl, hZ.out⟩ | (rename_i hK; exact hK _ _ ⟨_, rfl, grown_refl _ _, VX.of rfl rfl, hZ.out⟩) | trace_state
  · intro ys done W aa hE hn hF hD hZ hG hO
    replace hE : w.grownBy W (some r) := hE
    have v7 : ys 7 = .func (.method "consign/msg.tell") #[.iface 73 (.pointer (some ⟨r, 0, none⟩))] #[] := hF 7 (by decide) (hD 7 (by kernel_rfl)) _ rfl
    have g7 := hG 7 13 rfl (Nat.le_of_ble_eq_true rfl)
    rw [v7] at g7
    replace hZ : WrIf r S st (done 10) W := hZ
    replace hZ := Lib.hid hZ
    replace hE := Lib.hid hE
    clear c0
    go_wp2_with fail
    first | exact ⟨_, rfl, grown_refl _ _, VX.of rfl rfl, hZ.out⟩ | (rename_i hK; exact hK _ _ ⟨_, rfl, grown_refl _ _, VX.of rfl rfl, hZ.out⟩) | trace_state
  · intro ys done W aa hE hn hF hD hZ hG hO
    replace hE : w.grownBy W (some r) := hE
    have v1 : ys 1 = .iface 73 (.pointer (some ⟨r, 0, none⟩)) := hF 1 (by decide) (hD 1 (by kernel_rfl)) _ rfl
    have g1 := hG 1 7 rfl (Nat.le_of_ble_eq_true rfl)
    rw [v1] at g1
    replace hZ : WrIf r S st (done 10) W := hZ
    replace hZ := Lib.hid hZ
    replace hE := Lib.hid hE
    clear c0
    go_wp2_with fail
    first | exact ⟨_, rfl, grown_refl _ _, VX.of rfl rfl, hZ.out⟩ | (rename_i hK; exact hK _ _ ⟨_, rfl, grown_refl _ _, VX.of rfl rfl, hZ.out⟩) | trace_state
  · intro ys done W aa hE hn hF hD hZ hG hO
    replace hE : w.grownBy W (some r) := hE
    have v5 : ys 5 = .int .u64 (N : Int) := hF 5 (by decide) (hD 5 (by kernel_rfl)) _ rfl
    have g5 := hG 5 11 rfl (Nat.le_of_ble_eq_true rfl)
    rw [v5] at g5
    have v6 : ys 6 = .int .i64 k := hF 6 (by decide) (hD 6 (by kernel_rfl)) _ rfl
    have g6 := hG 6 12 rfl (Nat.le_of_ble_eq_true rfl)
    rw [v6] at g6
    have v9 : ys 9 = .iface 73 (.pointer (some ⟨r, 0, none⟩)) := hF 9 (by decide) (hD 9 (by kernel_rfl)) _ rfl
    have g9 := hG 9 15 rfl (Nat.le_of_ble_eq_true rfl)
    rw [v9] at g9
    replace hZ : WrAt W r st := by rw [show done 10 = false from hn] at hZ; exact hZ
    replace hZ := Lib.hid hZ
    replace hE := Lib.hid hE
    clear c0
    go_wp2_with fail
    refine (hcall.out W hZ.out).mono ?_
    rintro e W' ⟨rfl, hR', hb'⟩
    replace hR' := Lib.hid hR'
    replace hb' := Lib.hid hb'
    go_wp2_with fail
    exact ⟨_, rfl, hb'.out, VX.of rfl rfl, hR'.out⟩
  · intro ys done W aa hE hn hF hD hZ hG hO
    replace hE : w.grownBy W (some r) := hE
    have v10 : ys 10 = .int .u64 (N : Int) := hF 10 (by decide) (hD 10 (by kernel_rfl)) _ rfl
    have g10 := hG 10 16 rfl (Nat.le_of_ble_eq_true rfl)
    rw [v10] at g10
    replace hZ : WrIf r S st (done 10) W := hZ
    replace hZ := Lib.hid hZ
    replace hE := Lib.hid hE
    go_wp2_with fail
    first | exact ⟨_, rfl, grown_refl _ _, VX.of rfl rfl, hZ.out⟩ | (rename_i hK; exact hK _ _ ⟨_, rfl, grown_refl _ _, VX.of rfl rfl, hZ.out⟩) | trace_state
 case hQ =>
  intro ys w6 hE hF hZ
  replace hE : w.grownBy w6 (some r) := hE
  obtain ⟨done, hd, hZ⟩ := hZ
  replace hZ : WrIf r S st (done 10) w6 := hZ
  rw [hd 10 (by decide)] at hZ
  replace hZ : WrAt w6 r S := hZ
  have hA6 := atL_grown hA.out hE hgr
  have hA7 := Lib.hid (hA6.put o (.int .i64 (wrap64 (N : Int))))
  have hT7 := Lib.hid ((Two.of_grown (b := g) hE).trans (Two.set r g w6 o (.int .i64 (wrap64 (N : Int)))))
  have hZ7 := Lib.hid (At.far hZ (Ne.symm hgr) o (.int .i64 (wrap64 (N : Int))))
  have d0 := (gcell (i := o) hE hgi hgr).trans c0
  have f0 := hA6.free o
  have v0 : ys 0 = .pointer (some ⟨g, o, none⟩) := hF 0 (by decide) _ rfl
  have v11 : ys 11 = .int .i64 (wrap64 (N : Int)) := hF 11 (by decide) _ rfl
  simp only [List.take_succ_cons, List.take_zero, List.drop_succ_cons, List.drop_zero, Sched.fill, v0, v11]
  clear hF hE hZ hA6 c0 v0 v11
  go_simp
  go_wp2
  refine bodyPost_end (results_none rfl _ _ _) rfl ?_
  exact ⟨rfl, hZ7.out, hA7.out, hT7.out⟩
set_option maxRecDepth 100000 in
set_option maxHeartbeats 8000000 in
theorem wfieldU (r : Nat) (st : Bs) (g o : Nat) (t : TypeId) (cs : List Value) (N : Nat) (k : Int) (w : World) (hN64 : N < 18446744073709551616) (hs : st.length ≤ 281474976710000) (h : WrAt w r st) (hA : AtL w g t cs) (hv : cs[o]? = some (.int .u64 (N : Int))) (hgr : g ≠ r) :
 Calls Try.prog 42 #[.iface 73 (.pointer (some ⟨r, 0, none⟩)), .pointer (some ⟨g, o, none⟩), .int .i64 k] w fun e w' => e = .returned (.tuple #[]) ∧ WrAt w' r (putB st N k) ∧ AtL w' g t (cs.set o (.int .u64 (N : Int))) ∧ Two r g w w' := by
 have hgi := hA.inside
 have c0 := hA.get hv
 have hcall := Lib.hid (fun W (h : WrAt W r st) => wtell_any r st N k W hN64 hs h)
 obtain ⟨U, hU⟩ : ∃ U, N = U := ⟨_, rfl⟩
 obtain ⟨S, hS⟩ : ∃ S, (putB st N k) = S := ⟨_, rfl⟩
 rw [hS]
 simp only [hS] at hcall
 subst hU
 clear hS hs hN64
 replace hA := Lib.hid hA
 replace h := Lib.hid h
 go_enter Try.func42, Try.ntmps42
 go_upto_region 0 with fail
 refine Sched.wp_region_sched 10 (fun W W' => W.grownBy W' (some r)) (VX [.pointer (some ⟨g, o, none⟩), .iface 73 (.pointer (some ⟨r, 0, none⟩)), .pointer (some ⟨g, o, none⟩), .pointer (some ⟨g, o, none⟩), .int .u64 (N : Int), .int .i64 k, .func (.method "consign/msg.tell") #[.iface 73 (.pointer (some ⟨r, 0, none⟩))] #[], .func (.method "consign/msg.tell") #[.iface 73 (.pointer (some ⟨r, 0, none⟩))] #[], .iface 73 (.pointer (some ⟨r, 0, none⟩)), .int .u64 (N : Int)]) (fun done _ W => WrIf r S st (done 9) W) (by kernel_rfl) (by kernel_rfl) (by kernel_rfl) (fun h1 h2 => grown_trans h1 h2) (fun h _ => h) (grown_drew _ _) (fun _ => h.out) (Sched.StepsA.steps (by kernel_rfl) ?hS) ?hQ
 case hS =>
  simp only [List.take_succ_cons, List.take_zero]
  refine ⟨?_, ?_, ?_, ?_, ?_, ?_, ?_, ?_, ?_, ?_, trivial⟩
  · intro ys done W aa hE hn hF hD hZ hG hO
    replace hE : w.grownBy W (some r) := hE
    have o1 := hO 1 (by kernel_rfl)
    replace o1 : aa.tmps[1]? = some (.pointer (some ⟨g, o, none⟩)) := o1
    replace hZ : WrIf r S st (done 9) W := hZ
    replace hZ := Lib.hid hZ
    replace hE := Lib.hid hE
    clear c0
    go_wp2_with fail
    first | exact ⟨_, rfl, grown_refl _ _, VX.of rfl rfl, hZ.out⟩ | (rename_i hK; exact hK _ _ ⟨_, rfl, grown_refl _ _, VX.of rfl rfl, hZ.out⟩) | trace_state
  · intro ys done W aa hE hn hF hD hZ hG hO
    replace hE : w.grownBy W (some r) := hE
    have o0 := hO 0 (by kernel_rfl)
    replace o0 : aa.tmps[0]? = some (.iface 73 (.pointer (some ⟨r, 0, none⟩))) := o0
    replace hZ : WrIf r S st (done 9) W := hZ
    replace hZ := Lib.hid hZ
    replace hE := Lib.hid hE
    clear c0
    go_wp2_with fail
    first | exact ⟨_, rfl, grown_refl _ _, VX.of rfl rfl, hZ.out⟩ | (rename_i hK; exact hK _ _ ⟨_, rfl, grown_refl _ _, VX.of rfl rfl, hZ.out⟩) | trace_state
  · intro ys done W aa hE hn hF hD hZ hG hO
    replace hE : w.grownBy W (some r) := hE
    have o1 := hO 1 (by kernel_rfl)
    replace o1 : aa.tmps[1]? = some (.pointer (some ⟨g, o, none⟩)) := o1
    replace hZ : WrIf r S st (done 9) W := hZ
    replace hZ := Lib.hid hZ
    replace hE := Lib.hid hE
    clear c0
    go_wp2_with fail
    first | exact ⟨_, rfl, grown_refl _ _, VX.of rfl rfl, hZ.out⟩ | (rename_i hK; exact hK _ _ ⟨_, rfl, grown_refl _ _, VX.of rfl rfl, hZ.out⟩) | trace_state
  · intro ys done W aa hE hn hF hD hZ hG hO
    replace hE : w.grownBy W (some r) := hE
    have v2 : ys 2 = .pointer (some ⟨g, o, none⟩) := hF 2 (by decide) (hD 2 (by kernel_rfl)) _ rfl
    have g2 := hG 2 8 rfl (Nat.le_of_ble_eq_true rfl)
    rw [v2] at g2
    replace hZ : WrIf r S st (done 9) W := hZ
    replace hZ := Lib.hid hZ
    replace hE := Lib.hid hE
    clear c0
    go_wp2_with fail
    first | exact ⟨_, rfl, grown_refl _ _, VX.of rfl rfl, hZ.out⟩ | (rename_i hK; exact hK _ _ ⟨_, rfl, grown_refl _ _, VX.of rfl rfl, hZ.out⟩) | trace_state
  · intro ys done W aa hE hn hF hD hZ hG hO
    replace hE : w.grownBy W (some r) := hE
    have v3 : ys 3 = .pointer (some ⟨g, o, none⟩) := hF 3 (by decide) (hD 3 (by kernel_rfl)) _ rfl
    have g3 := hG 3 9 rfl (Nat.le_of_ble_eq_true rfl)
    rw [v3] at g3
    have d0 := (gcell (i := o) hE hgi hgr).trans c0
    replace hZ : WrIf r S st (done 9) W := hZ
    replace hZ := Lib.hid hZ
    replace hE := Lib.hid hE
    clear c0
    go_wp2_with fail
    first | exact ⟨_, rfl, grown_refl _ _, VX.of rfl rfl, hZ.out⟩ | (rename_i hK; exact hK _ _ ⟨_, rfl, grown_refl _ _, VX.of rfl rfl, hZ.out⟩) | trace_state
  · intro ys done W aa hE hn hF hD hZ hG hO
    replace hE : w.grownBy W (some r) := hE
    have o2 := hO 2 (by kernel_rfl)
    replace o2 : aa.tmps[2]? = some (.int .i64 k) := o2
    replace hZ : WrIf r S st (done 9) W := hZ
    replace hZ := Lib.hid hZ
    replace hE := Lib.hid hE
    go_wp2_with fail
    first | exact ⟨_, rfl, grown_refl _ _, VX.of rfl rfl, hZ.out⟩ | (rename_i hK; exact hK _ _ ⟨_, rfl, grown_refl _ _, VX.of rfl rfl, hZ.out⟩) | trace_state
  · intro ys done W aa hE hn hF hD hZ hG hO
    replace hE : w.grownBy W (some r) := hE
    have v1 : ys 1 = .iface 73 (.pointer (some ⟨r, 0, none⟩)) := hF 1 (by decide) (hD 1 (by kernel_rfl)) _ rfl
    have g1 := hG 1 7 rfl (Nat.le_of_ble_eq_true rfl)
    rw [v1] at g1
    replace hZ : WrIf r S st (done 9) W := hZ
    replace hZ := Lib.hid hZ
    replace hE := Lib.hid hE
    clear c0
    go_wp2_with fail
    first | exact ⟨_, rfl, grown_refl _ _, VX.of rfl rfl, hZ.out⟩ | (rename_i hK; exact hK _ _ ⟨_, rfl, grown_refl _ _, VX.of rfl rfl, hZ.out⟩) | trace_state
  · intro ys done W aa hE hn hF hD hZ hG hO
    replace hE : w.grownBy W (some r) := hE
    have v6 : ys 6 = .func (.method "consign/msg.tell") #[.iface 73 (.pointer (some ⟨r, 0, none⟩))] #[] := hF 6 (by decide) (hD 6 (by kernel_rfl)) _ rfl
    have g6 := hG 6 12 rfl (Nat.le_of_ble_eq_true rfl)
    rw [v6] at g6
    replace hZ : WrIf r S st (done 9) W := hZ
    replace hZ := Lib.hid hZ
    replace hE := Lib.hid hE
    clear c0
    go_wp2_with fail
    first | exact ⟨_, rfl, grown_refl _ _, VX.of rfl rfl, hZ.out⟩ | (rename_i hK; exact hK _ _ ⟨_, rfl, grown_refl _ _, VX.of rfl rfl, hZ.out⟩) | trace_state
  · intro ys done W aa hE hn hF hD hZ hG hO
    replace hE : w.grownBy W (some r) := hE
    have v1 : ys 1 = .iface 73 (.pointer (some ⟨r, 0, none⟩)) := hF 1 (by decide) (hD 1 (by kernel_rfl)) _ rfl
    have g1 := hG 1 7 rfl (Nat.le_of_ble_eq_true rfl)
    rw [v1] at g1
    replace hZ : WrIf r S st (done 9) W := hZ
    replace hZ := Lib.hid hZ
    replace hE := Lib.hid hE
    clear c0
    go_wp2_with fail
    first | exact ⟨_, rfl, grown_refl _ _, VX.of rfl rfl, hZ.out⟩ | (rename_i hK; exact hK _ _ ⟨_, rfl, grown_refl _ _, VX.of rfl rfl, hZ.out⟩) | trace_state
  · intro ys done W aa hE hn hF hD hZ hG hO
    replace hE : w.grownBy W (some r) := hE
    have v4 : ys 4 = .int .u64 (N : Int) := hF 4 (by decide) (hD 4 (by kernel_rfl)) _ rfl
    have g4 := hG 4 10 rfl (Nat.le_of_ble_eq_true rfl)
    rw [v4] at g4
    have v5 : ys 5 = .int .i64 k := hF 5 (by decide) (hD 5 (by kernel_rfl)) _ rfl
    have g5 := hG 5 11 rfl (Nat.le_of_ble_eq_true rfl)
    rw [v5] at g5
    have v8 : ys 8 = .iface 73 (.pointer (some ⟨r, 0, none⟩)) := hF 8 (by decide) (hD 8 (by kernel_rfl)) _ rfl
    have g8 := hG 8 14 rfl (Nat.le_of_ble_eq_true rfl)
    rw [v8] at g8
    replace hZ : WrAt W r st := by rw [show done 9 = false from hn] at hZ; exact hZ
    replace hZ := Lib.hid hZ
    replace hE := Lib.hid hE
    clear c0
    go_wp2_with fail
    refine (hcall.out W hZ.out).mono ?_
    rintro e W' ⟨rfl, hR', hb'⟩
    replace hR' := Lib.hid hR'
    replace hb' := Lib.hid hb'
    go_wp2_with fail
    exact ⟨_, rfl, hb'.out, VX.of rfl rfl, hR'.out⟩
 case hQ =>
  intro ys w6 hE hF hZ
  replace hE : w.grownBy w6 (some r) := hE
  obtain ⟨done, hd, hZ⟩ := hZ
  replace hZ : WrIf r S st (done 9) w6 := hZ
  rw [hd 9 (by decide)] at hZ
  replace hZ : WrAt w6 r S := hZ
  have hA6 := atL_grown hA.out hE hgr
  have hA7 := Lib.hid (hA6.put o (.int .u64 (N : Int)))
  have hT7 := Lib.hid ((Two.of_grown (b := g) hE).trans (Two.set r g w6 o (.int .u64 (N : Int))))
  have hZ7 := Lib.hid (At.far hZ (Ne.symm hgr) o (.int .u64 (N : Int)))
  have d0 := (gcell (i := o) hE hgi hgr).trans c0
  have f0 := hA6.free o
  have v0 : ys 0 = .pointer (some ⟨g, o, none⟩) := hF 0 (by decide) _ rfl
  have v9 : ys 9 = .int .u64 (N : Int) := hF 9 (by decide) _ rfl
  simp only [List.take_succ_cons, List.take_zero, List.drop_succ_cons, List.drop_zero, Sched.fill, v0, v9]
  clear hF hE hZ hA6 c0 v0 v9
  go_simp
  go_wp2
  refine bodyPost_end (results_none rfl _ _ _) rfl ?_
  exact ⟨rfl, hZ7.out, hA7.out, hT7.out⟩
set_option maxRecDepth 100000 in
set_option maxHeartbeats 8000000 in
theorem wfieldB (r : Nat) (st : Bs) (g o : Nat) (t : TypeId) (cs : List Value) (n : Int) (N : Nat) (hc : IntKind.u64.wrap n = (N : Int)) (k : Int) (w : World) (hN64 : N < 18446744073709551616) (hs : st.length ≤ 281474976710000) (h : WrAt w r st) (hA : AtL w g t cs) (hv : cs[o]? = some (.int .u8 n)) (hgr : g ≠ r) :
 Calls Try.prog 58 #[.iface 73 (.pointer (some ⟨r, 0, none⟩)), .pointer (some ⟨g, o, none⟩), .int .i64 k] w fun e w' => e = .returned (.tuple #[]) ∧ WrAt w' r (putB st N k) ∧ AtL w' g t (cs.set o (.int .u8 (IntKind.u8.wrap (N : Int)))) ∧ Two r g w w' := by
 have hgi := hA.inside
 have c0 := hA.get hv
 have hcall := Lib.hid (fun W (h : WrAt W r st) => wtell_any r st N k W hN64 hs h)
 obtain ⟨U, hU⟩ : ∃ U, N = U := ⟨_, rfl⟩
 obtain ⟨S, hS⟩ : ∃ S, (putB st N k) = S := ⟨_, rfl⟩
 rw [hS]
 simp only [hS] at hcall
 subst hU
 clear hS hs hN64
 replace hA := Lib.hid hA
 replace h := Lib.hid h
 go_enter Try.func58, Try.ntmps58
 go_upto_region 0 with fail
 refine Sched.wp_region_sched 12 (fun W W' => W.grownBy W' (some r)) (VX [.pointer (some ⟨g, o, none⟩), .iface 73 (.pointer (some ⟨r, 0, none⟩)), .pointer (some ⟨g, o, none⟩), .pointer (some ⟨g, o, none⟩), .int .u8 n, .int .u64 (N : Int), .int .i64 k, .func (.method "consign/msg.tell") #[.iface 73 (.pointer (some ⟨r, 0, none⟩))] #[], .func (.method "consign/msg.tell") #[.iface 73 (.pointer (some ⟨r, 0, none⟩))] #[], .iface 73 (.pointer (some ⟨r, 0, none⟩)), .int .u64 (N : Int), .int .u8 (IntKind.u8.wrap (N : Int))]) (fun done _ W => WrIf r S st (done 10) W) (by kernel_rfl) (by kernel_rfl) (by kernel_rfl) (fun h1 h2 => grown_trans h1 h2) (fun h _ => h) (grown_drew _ _) (fun _ => h.out) (Sched.StepsA.steps (by kernel_rfl) ?hS) ?hQ
 case hS =>
  simp only [List.take_succ_cons, List.take_zero]
  refine ⟨?_, ?_, ?_, ?_, ?_, ?_, ?_, ?_, ?_, ?_, ?_, ?_, trivial⟩
  · intro ys done W aa hE hn hF hD hZ hG hO
    replace hE : w.grownBy W (some r) := hE
    have o1 := hO 1 (by kernel_rfl)
    replace o1 : aa.tmps[1]? = some (.pointer (some ⟨g, o, none⟩)) := o1
    replace hZ : WrIf r S st (done 10) W := hZ
    replace hZ := Lib.hid hZ
    replace hE := Lib.hid hE
    clear c0
    go_wp2_with fail
    first | exact ⟨_, rfl, grown_refl _ _, VX.of rfl rfl, hZ.out⟩ | (rename_i hK; exact hK _ _ ⟨_, rfl, grown_refl _ _, VX.of rfl rfl, hZ.out⟩) | trace_state
  · intro ys done W aa hE hn hF hD hZ hG hO
    replace hE : w.grownBy W (some r) := hE
    have o0 := hO 0 (by kernel_rfl)
    replace o0 : aa.tmps[0]? = some (.iface 73 (.pointer (some ⟨r, 0, none⟩))) := o0
    replace hZ : WrIf r S st (done 10) W := hZ
    replace hZ := Lib.hid hZ
    replace hE := Lib.hid hE
    clear c0
    go_wp2_with fail
    first | exact ⟨_, rfl, grown_refl _ _, VX.of rfl rfl, hZ.out⟩ | (rename_i hK; exact hK _ _ ⟨_, rfl, grown_refl _ _, VX.of rfl rfl, hZ.out⟩) | trace_state
  · intro ys done W aa hE hn hF hD hZ hG hO
    replace hE : w.grownBy W (some r) := hE
    have o1 := hO 1 (by kernel_rfl)
    replace o1 : aa.tmps[1]? = some (.pointer (some ⟨g, o, none⟩)) := o1
    replace hZ : WrIf r S st (done 10) W := hZ
    replace hZ := Lib.hid hZ
    replace hE := Lib.hid hE
    clear c0
    go_wp2_with fail
    first | exact ⟨_, rfl, grown_refl _ _, VX.of rfl rfl, hZ.out⟩ | (rename_i hK; exact hK _ _ ⟨_, rfl, grown_refl _ _, VX.of rfl rfl, hZ.out⟩) | trace_state
  · intro ys done W aa hE hn hF hD hZ hG hO
    replace hE : w.grownBy W (some r) := hE
    have v2 : ys 2 = .pointer (some ⟨g, o, none⟩) := hF 2 (by decide) (hD 2 (by kernel_rfl)) _ rfl
    have g2 := hG 2 8 rfl (Nat.le_of_ble_eq_true rfl)
    rw [v2] at g2
    replace hZ : WrIf r S st (done 10) W := hZ
    replace hZ := Lib.hid hZ
    replace hE := Lib.hid hE
    clear c0
    go_wp2_with fail
    first | exact ⟨_, rfl, grown_refl _ _, VX.of rfl rfl, hZ.out⟩ | (rename_i hK; exact hK _ _ ⟨_, rfl, grown_refl _ _, VX.of rfl rfl, hZ.out⟩) | trace_state
  · intro ys done W aa hE hn hF hD hZ hG hO
    replace hE : w.grownBy W (some r) := hE
    have v3 : ys 3 = .pointer (some ⟨g, o, none⟩) := hF 3 (by decide) (hD 3 (by kernel_rfl)) _ rfl
    have g3 := hG 3 9 rfl (Nat.le_of_ble_eq_true rfl)
    rw [v3] at g3
    have d0 := (gcell (i := o) hE hgi hgr).trans c0
    replace hZ : WrIf r S st (done 10) W := hZ
    replace hZ := Lib.hid hZ
    replace hE := Lib.hid hE
    clear c0
    go_wp2_with fail
    first | exact ⟨_, rfl, grown_refl _ _, VX.of rfl rfl, hZ.out⟩ | (rename_i hK; exact hK _ _ ⟨_, rfl, grown_refl _ _, VX.of rfl rfl, hZ.out⟩) | trace_state
  · intro ys done W aa hE hn hF hD hZ hG hO
    replace hE : w.grownBy W (some r) := hE
    have v4 : ys 4 = .int .u8 n := hF 4 (by decide) (hD 4 (by kernel_rfl)) _ rfl
    have g4 := hG 4 10 rfl (Nat.le_of_ble_eq_true rfl)
    rw [v4] at g4
    replace hZ : WrIf r S st (done 10) W := hZ
    replace hZ := Lib.hid hZ
    replace hE := Lib.hid hE
    go_wp2_with fail
    first | exact ⟨_, rfl, grown_refl _ _, VX.of rfl rfl, hZ.out⟩ | (rename_i hK; exact hK _ _ ⟨_, rfl, grown_refl _ _, VX.of rfl rfl, hZ.out⟩) | trace_state
  · intro ys done W aa hE hn hF hD hZ hG hO
    replace hE : w.grownBy W (some r) := hE
    have o2 := hO 2 (by kernel_rfl)
    replace o2 : aa.tmps[2]? = some (.int .i64 k) := o2
    replace hZ : WrIf r S st (done 10) W := hZ
    replace hZ := Lib.hid hZ
    replace hE := Lib.hid hE
    clear c0
    go_wp2_with fail
    first | exact ⟨_, rfl, grown_refl _ _, VX.of rfl rfl, hZ.out⟩ | (rename_i hK; exact hK _ _ ⟨_, rfl, grown_refl _ _, VX.of rfl rfl, hZ.out⟩) | trace_state
  · intro ys done W aa hE hn hF hD hZ hG hO
    replace hE : w.grownBy W (some r) := hE
    have v1 : ys 1 = .iface 73 (.pointer (some ⟨r, 0, none⟩)) := hF 1 (by decide) (hD 1 (by kernel_rfl)) _ rfl
    have g1 := hG 1 7 rfl (Nat.le_of_ble_eq_true rfl)
    rw [v1] at g1
    replace hZ : WrIf r S st (done 10) W := hZ
    replace hZ := Lib.hid hZ
    replace hE := Lib.hid hE
    clear c0
    go_wp2_with fail
    first | exact ⟨_, rfl, grown_refl _ _, VX.of rfl rfl, hZ.out⟩ | (rename_i hK; exact hK _ _ ⟨_, rfl, grown_refl _ _, VX.of rfl rfl, hZ.out⟩) | trace_state
  · intro ys done W aa hE hn hF hD hZ hG hO
    replace hE : w.grownBy W (some r) := hE
    have v7 : ys 7 = .func (.method "consign/msg.tell") #[.iface 73 (.pointer (some ⟨r, 0, none⟩))] #[] := hF 7 (by decide) (hD 7 (by kernel_rfl)) _ rfl
    have g7 := hG 7 13 rfl (Nat.le_of_ble_eq_true rfl)
    rw [v7] at g7
    replace hZ : WrIf r S st (done 10) W := hZ
    replace hZ := Lib.hid hZ
    replace hE := Lib.hid hE
    clear c0
    go_wp2_with fail
    first | exact ⟨_, rfl, grown_refl _ _, VX.of rfl rfl, hZ.out⟩ | (rename_i hK; exact hK _ _ ⟨_, rfl, grown_refl _ _, VX.of rfl rfl, hZ.out⟩) | trace_state
  · intro ys done W aa hE hn hF hD hZ hG hO
    replace hE : w.grownBy W (some r) := hE
    have v1 : ys 1 = .iface 73 (.pointer (some ⟨r, 0, none⟩)) := hF 1 (by decide) (hD 1 (by kernel_rfl)) _ rfl
    have g1 := hG 1 7 rfl (Nat.le_of_ble_eq_true rfl)
    rw [v1] at g1
    replace hZ : WrIf r S st (done 10) W := hZ
    replace hZ := Lib.hid hZ
    replace hE := Lib.hid hE
    clear c0
    go_wp2_with fail
    first | exact ⟨_, rfl, grown_refl _ _, VX.of rfl rfl, hZ.out⟩ | (rename_i hK; exact hK _ _ ⟨_, rfl, grown_refl _ _, VX.of rfl rfl, hZ.out⟩) | trace_state
  · intro ys done W aa hE hn hF hD hZ hG hO
    replace hE : w.grownBy W (some r) := hE
    have v5 : ys 5 = .int .u64 (N : Int) := hF 5 (by decide) (hD 5 (by kernel_rfl)) _ rfl
    have g5 := hG 5 11 rfl (Nat.le_of_ble_eq_true rfl)
    rw [v5] at g5
    have v6 : ys 6 = .int .i64 k := hF 6 (by decide) (hD 6 (by kernel_rfl)) _ rfl
    have g6 := hG 6 12 rfl (Nat.le_of_ble_eq_true rfl)
    rw [v6] at g6
    have v9 : ys 9 = .iface 73 (.pointer (some ⟨r, 0, none⟩)) := hF 9 (by decide) (hD 9 (by kernel_rfl)) _ rfl
    have g9 := hG 9 15 rfl (Nat.le_of_ble_eq_true rfl)
    rw [v9] at g9
    replace hZ : WrAt W r st := by rw [show done 10 = false from hn] at hZ; exact hZ
    replace hZ := Lib.hid hZ
    replace hE := Lib.hid hE
    clear c0
    go_wp2_with fail
    refine (hcall.out W hZ.out).mono ?_
    rintro e W' ⟨rfl, hR', hb'⟩
    replace hR' := Lib.hid hR'
    replace hb' := Lib.hid hb'
    go_wp2_with fail
    exact ⟨_, rfl, hb'.out, VX.of rfl rfl, hR'.out⟩
  · intro ys done W aa hE hn hF hD hZ hG hO
    replace hE : w.grownBy W (some r) := hE
    have v10 : ys 10 = .int .u64 (N : Int) := hF 10 (by decide) (hD 10 (by kernel_rfl)) _ rfl
    have g10 := hG 10 16 rfl (Nat.le_of_ble_eq_true rfl)
    rw [v10] at g10
    replace hZ : WrIf r S st (done 10) W := hZ
    replace hZ := Lib.hid hZ
    replace hE := Lib.hid hE
    go_wp2_with fail
    first | exact ⟨_, rfl, grown_refl _ _, VX.of rfl rfl, hZ.out⟩ | (rename_i hK; exact hK _ _ ⟨_, rfl, grown_refl _ _, VX.of rfl rfl, hZ.out⟩) | trace_state
 case hQ =>
  intro ys w6 hE hF hZ
  replace hE : w.grownBy w6 (some r) := hE
  obtain ⟨done, hd, hZ⟩ := hZ
  replace hZ : WrIf r S st (done 10) w6 := hZ
  rw [hd 10 (by decide)] at hZ
  replace hZ : WrAt w6 r S := hZ
  have hA6 := atL_grown hA.out hE hgr
  have hA7 := Lib.hid (hA6.put o (.int .u8 (IntKind.u8.wrap (N : Int))))
  have hT7 := Lib.hid ((Two.of_grown (b := g) hE).trans (Two.set r g w6 o (.int .u8 (IntKind.u8.wrap (N : Int)))))
  have hZ7 := Lib.hid (At.far hZ (Ne.symm hgr) o (.int .u8 (IntKind.u8.wrap (N : Int))))
  have d0 := (gcell (i := o) hE hgi hgr).trans c0
  have f0 := hA6.free o
  have v0 : ys 0 = .pointer (some ⟨g, o, none⟩) := hF 0 (by decide) _ rfl
  have v11 : ys 11 = .int .u8 (IntKind.u8.wrap (N : Int)) := hF 11 (by decide) _ rfl
  simp only [List.take_succ_cons, List.take_zero, List.drop_succ_cons, List.drop_zero, Sched.fill, v0, v11]
  clear hF hE hZ hA6 c0 v0 v11
  go_simp
  go_wp2
  refine bodyPost_end (results_none rfl _ _ _) rfl ?_
  exact ⟨rfl, hZ7.out, hA7.out, hT7.out⟩
end Go.Proofs.Ytpefdmkfmcjfnaa.Mp

/-
  Does a reader answer just these parts? A reader whose front they are does, and has what is behind them left.
-/
import Derived.Test.YtjjmhkafhbeabaaOctCut
import Derived.Test.YtjjmhkafhbeabaaOctRow
import Derived.Test.YtjjmhkafhbeabaaOctRefNum
import Derived.Test.YtjjmhkafhbeabaaSched
import Derived.Test.YtjjmhkafhbeabaaSchedVK
namespace Go.Proofs.Ytjjmhkafhbeabaa.Oct
open Go.RowKit Go.Sort Go.Proofs.Ytjjmhkafhbeabaa.Mem Go.Proofs.Ytjjmhkafhbeabaa.Route
set_option linter.unusedVariables false
attribute [local go_sem] str_append str_from str_to

/-- The operations' values, outright. -/
def VX (ks : List Value) (i : Nat) (v : Value) (w : World) : Prop := ∀ u, ks[i]? = some u → v = u
theorem VX.of {ks : List Value} {i : Nat} {u v : Value} {w : World} (h : ks[i]? = some u) (e : v = u) : VX ks i v w := fun u' hu => by rw [h] at hu; cases hu; exact e
theorem grown_refl (w : World) (r : Nat) : w.grownBy w (some r) := ⟨rfl, rfl, rfl, Nat.le_refl _, fun _ _ _ => rfl⟩
theorem grown_drew (w : World) (r : Nat) : w.grownBy { w with drawn := w.drawn + 1 } (some r) := ⟨rfl, rfl, rfl, Nat.le_refl _, fun _ _ _ => rfl⟩
theorem grown_of {w v : World} (h : Below w.heap.size w v) (r : Nat) : w.grownBy v (some r) := ⟨h.os, h.tape, h.output, h.size, fun k hk _ => h.block k hk⟩
theorem gcell {w v : World} {r g i : Nat} (h : w.grownBy v (some r)) (hg : g < w.heap.size) (hne : g ≠ r) : v.cell? ⟨g, i, none⟩ = w.cell? ⟨g, i, none⟩ := World.cell?_of_block (h.block g hg (by simpa using hne))
/-- The reader ahead of a call, or behind it. -/
def RdIf (r : Nat) (a b : St) (c : Bool) (W : World) : Prop := RdAt W r (if c then a else b)
theorem RdIf.on {r : Nat} {a b : St} {c : Bool} {w v : World} (h : RdIf r a b c w) (hb : Below w.heap.size w v) : RdIf r a b c v := RdAt.on h hb
theorem rowL_cons (p : Part) (l : List Part) : rowL (p :: l) = p.bytes ++ rowL l := by simp [rowL]

set_option maxRecDepth 100000 in
set_option maxHeartbeats 8000000 in
theorem reads_any (r : Nat) (x : Option Addr) (N cap : Nat) (ps : List Part) (tl : Bs) (w : World) (hrow : RowB r w (.slice x N cap) 4 (ps.map partV)) (hps : ∀ p ∈ ps, PartOk p) (h16 : ps.length ≤ 16) (hlen : (rowL ps ++ tl).length ≤ 9223372036854775000) (hr0 : RdAt w r (some (rowL ps ++ tl))) :
    Calls Try.prog 25 #[.pointer (some ⟨r, 0, none⟩), .slice x N cap] w fun e w' => e = .returned (.bool true) ∧ RdAt w' r (some tl) ∧ w.grownBy w' (some r) := by
  have hN : ps.length = N := by
    obtain ⟨x', cap', e, -⟩ := hrow
    cases e
    simp
  have hin := hr0.inside
  have hN16 : (N : Int) ≤ 16 := by omega
  clear h16
  have hlen' : ∀ i, (rowL (ps.drop i) ++ tl).length ≤ 9223372036854775000 := by
    intro i
    have h1 : rowL ps = rowL (ps.take i) ++ rowL (ps.drop i) := by
      unfold rowL
      rw [← List.flatten_append, ← List.map_append, List.take_append_drop]
    rw [h1, List.append_assoc, List.length_append] at hlen
    omega
  replace hrow := Lib.hid hrow
  replace hN := Lib.hid hN
  replace hlen' := Lib.hid hlen'
  replace hps := Lib.hid hps
  replace hr0 := Lib.hid hr0
  clear hlen
  go_enter Try.func25, Try.ntmps25
  go_wp2_with fail
  go_loopw [5] (fun c wr => ∃ (i : Nat), c = .int .i64 (i : Int) ∧ i ≤ N ∧ Hid (RdAt wr r (some (rowL (ps.drop i) ++ tl))) ∧ Hid (w.grownBy wr (some r)))
    (fun c _ => N - (intOf c).toNat)
  case atStart => exact ⟨0, rfl, by omega, hr0, Lib.hid (grown_refl _ _)⟩
  case round =>
    clear hr0
    obtain ⟨wi, hwi⟩ : ∃ wi, wi = wr := ⟨_, rfl⟩
    subst hwi
    obtain ⟨i, rfl, hiN, hR, hG0⟩ := hrel
    by_cases hlt : i < N
    case neg =>
      obtain rfl : i = N := by omega
      have hd : ps.drop i = [] := List.drop_eq_nil_of_le (by rw [hN.out]; exact Nat.le_refl _)
      rw [hd] at hR
      replace hR := Lib.hid (show RdAt wi r (some tl) from hR.out)
      clear hd hlt
      go_wp2
      go_ret
      exact ⟨rfl, hR.out, hG0.out⟩
    have hlt' : (i : Int) < (N : Int) := by omega
    obtain ⟨p, hp⟩ : ∃ p, ps[i]? = some p := ⟨_, List.getElem?_eq_getElem (by rw [hN.out]; exact hlt)⟩
    have hpo := hps.out p (List.mem_of_getElem? hp)
    obtain ⟨g, o, rfl, hg, e0, e1, e2, e3⟩ := part_at hrow.out hp
    have hgr : g ≠ r := by omega
    have hgw : g < w.heap.size := by omega
    have c0 := (gcell hG0.out hgw hgr).trans e0
    have c1 := (gcell hG0.out hgw hgr).trans e1
    have c2 := (gcell hG0.out hgw hgr).trans e2
    have c3 := (gcell hG0.out hgw hgr).trans e3
    have hgi : g < wi.heap.size := Nat.lt_of_lt_of_le hgw hG0.out.size
    have hdr : ps.drop i = p :: ps.drop (i + 1) := by
      have hi := (List.getElem?_eq_some_iff.1 hp).1
      rw [List.drop_eq_getElem_cons hi]
      congr 1
      rw [List.getElem?_eq_getElem hi] at hp
      exact Option.some.inj hp
    have hli := hlen'.out i
    rw [hdr, rowL_cons, List.append_assoc] at hR hli
    obtain ⟨R, hRR⟩ : ∃ R, rowL (ps.drop (i + 1)) ++ tl = R := ⟨_, rfl⟩
    rw [hRR] at hR hli
    replace hRR := Lib.hid hRR
    have hstl : ∀ l, (some (p.bytes ++ R) : St) = some l → l.length ≤ 9223372036854775000 := fun l hl => by cases hl; exact hli
    clear hp hdr e0 e1 e2 e3
    cases his : p.is
    case true =>
      have hb : p.bytes = laidL p.text.length 2 ++ p.text := by simp [Part.bytes, his]
      have hts : textS (some (p.bytes ++ R)) = (p.text, some R) := by rw [hb]; exact textS_front (by have := hpo.2; omega) R
      rw [his] at c3
      have cT := Lib.hid (fun W (h : RdAt W r (some (p.bytes ++ R))) => Text_any r _ W hstl h)
      simp only [hts] at cT
      obtain ⟨S, hS⟩ : ∃ S : St, some (p.bytes ++ R) = S := ⟨_, rfl⟩
      rw [hS] at hR cT
      clear hb hts his hstl hli hS
      obtain ⟨n, k, t, b⟩ := p
      simp only at c0 c1 c2 cT
      go_upto_region 5 with fail
      refine Sched.wp_region_sched 7 (fun W W' => W.grownBy W' (some r)) (VX [.pointer (some ⟨r, 0, none⟩), .string (str t), .slice (some ⟨g, o, none⟩) N cap, .int .i64 (i : Int), .pointer (some ⟨g, o + i * 4, none⟩), .pointer (some ⟨g, o + i * 4 + 2, none⟩), .string (str t)]) (fun done _ W => RdIf r (some R) S (done 1) W) (by kernel_rfl) (by kernel_rfl) (by kernel_rfl) (fun h1 h2 => grown_trans h1 h2) (fun h _ => h) (grown_drew _ _) (fun _ => hR.out) (Sched.StepsA.steps (by kernel_rfl) ?hSA) ?hQA
      case hSA =>
       simp only [List.take_succ_cons, List.take_zero]
       refine ⟨?_, ?_, ?_, ?_, ?_, ?_, ?_, trivial⟩
       · intro ys done W aa hE hn hF hD hZ hG hO
         replace hE : wi.grownBy W (some r) := hE
         have o0 := hO 0 (by kernel_rfl)
         replace o0 : aa.tmps[0]? = some (.pointer (some ⟨r, 0, none⟩)) := o0
         replace hZ : RdIf r (some R) S (done 1) W := hZ
         replace hZ := Lib.hid hZ
         replace hE := Lib.hid hE
         go_wp2_with fail
         exact ⟨_, rfl, grown_refl _ _, VX.of rfl rfl, hZ.out⟩
       · intro ys done W aa hE hn hF hD hZ hG hO
         replace hE : wi.grownBy W (some r) := hE
         have v0 : ys 0 = .pointer (some ⟨r, 0, none⟩) := hF 0 (by decide) (hD 0 (by kernel_rfl)) _ rfl
         have g0 := hG 0 17 rfl (Nat.le_of_ble_eq_true rfl)
         rw [v0] at g0
         replace hZ : RdAt W r S := by rw [show done 1 = false from hn] at hZ; exact hZ
         replace hZ := Lib.hid hZ
         replace hE := Lib.hid hE
         go_wp2_with fail
         refine (cT.out W hZ.out).mono ?_
         rintro e W' ⟨rfl, hR', hb'⟩
         replace hR' := Lib.hid hR'
         replace hb' := Lib.hid hb'
         go_wp2_with fail
         exact ⟨_, rfl, hb'.out, VX.of rfl rfl, hR'.out⟩
       · intro ys done W aa hE hn hF hD hZ hG hO
         replace hE : wi.grownBy W (some r) := hE
         have o1 := hO 1 (by kernel_rfl)
         replace o1 : aa.tmps[1]? = some (.slice (some ⟨g, o, none⟩) N cap) := o1
         replace hZ : RdIf r (some R) S (done 1) W := hZ
         replace hZ := Lib.hid hZ
         replace hE := Lib.hid hE
         go_wp2_with fail
         exact ⟨_, rfl, grown_refl _ _, VX.of rfl rfl, hZ.out⟩
       · intro ys done W aa hE hn hF hD hZ hG hO
         replace hE : wi.grownBy W (some r) := hE
         have o5 := hO 5 (by kernel_rfl)
         replace o5 : aa.tmps[5]? = some (.int .i64 (i : Int)) := o5
         replace hZ : RdIf r (some R) S (done 1) W := hZ
         replace hZ := Lib.hid hZ
         replace hE := Lib.hid hE
         go_wp2_with fail
         exact ⟨_, rfl, grown_refl _ _, VX.of rfl rfl, hZ.out⟩
       · intro ys done W aa hE hn hF hD hZ hG hO
         replace hE : wi.grownBy W (some r) := hE
         have v2 : ys 2 = .slice (some ⟨g, o, none⟩) N cap := hF 2 (by decide) (hD 2 (by kernel_rfl)) _ rfl
         have g2 := hG 2 19 rfl (Nat.le_of_ble_eq_true rfl)
         rw [v2] at g2
         have v3 : ys 3 = .int .i64 (i : Int) := hF 3 (by decide) (hD 3 (by kernel_rfl)) _ rfl
         have g3 := hG 3 20 rfl (Nat.le_of_ble_eq_true rfl)
         rw [v3] at g3
         replace hZ : RdIf r (some R) S (done 1) W := hZ
         replace hZ := Lib.hid hZ
         replace hE := Lib.hid hE
         go_wp2_with fail
         exact ⟨_, rfl, grown_refl _ _, VX.of rfl rfl, hZ.out⟩
       · intro ys done W aa hE hn hF hD hZ hG hO
         replace hE : wi.grownBy W (some r) := hE
         have v4 : ys 4 = .pointer (some ⟨g, o + i * 4, none⟩) := hF 4 (by decide) (hD 4 (by kernel_rfl)) _ rfl
         have g4 := hG 4 21 rfl (Nat.le_of_ble_eq_true rfl)
         rw [v4] at g4
         replace hZ : RdIf r (some R) S (done 1) W := hZ
         replace hZ := Lib.hid hZ
         replace hE := Lib.hid hE
         go_wp2_with fail
         exact ⟨_, rfl, grown_refl _ _, VX.of rfl rfl, hZ.out⟩
       · intro ys done W aa hE hn hF hD hZ hG hO
         replace hE : wi.grownBy W (some r) := hE
         have v5 : ys 5 = .pointer (some ⟨g, o + i * 4 + 2, none⟩) := hF 5 (by decide) (hD 5 (by kernel_rfl)) _ rfl
         have g5 := hG 5 22 rfl (Nat.le_of_ble_eq_true rfl)
         rw [v5] at g5
         have d0 := (gcell hE hgi hgr).trans c0
         have d1 := (gcell hE hgi hgr).trans c1
         have d2 := (gcell hE hgi hgr).trans c2
         have d3 := (gcell hE hgi hgr).trans c3
         replace hZ : RdIf r (some R) S (done 1) W := hZ
         replace hZ := Lib.hid hZ
         replace hE := Lib.hid hE
         go_wp2_with fail
         exact ⟨_, rfl, grown_refl _ _, VX.of rfl rfl, hZ.out⟩
      case hQA =>
       intro ys w6 hE hF hZ
       replace hE : wi.grownBy w6 (some r) := hE
       obtain ⟨done, hd, hZ⟩ := hZ
       replace hZ : RdIf r (some R) S (done 1) w6 := hZ
       rw [hd 1 (by decide)] at hZ
       replace hZ := Lib.hid (show RdAt w6 r (some R) from hZ)
       replace hE := Lib.hid (grown_trans hG0.out hE)
       have v1 : ys 1 = .string (str t) := hF 1 (by decide) _ rfl
       have v6 : ys 6 = .string (str t) := hF 6 (by decide) _ rfl
       simp only [List.take_succ_cons, List.take_zero, List.drop_succ_cons, List.drop_zero, Sched.fill, v1, v6]
       clear hF hG0 hR c0 c1 c2 c3 v1 v6
       go_simp
       go_wp2_with fail
       go_roundw
       case rel => exact ⟨i + 1, by go_num, by omega, by rw [hRR.out]; exact hZ, hE⟩
       case measure => simp [intOf]; omega
    case false =>
      have hw8 := p.width_le
      have hb : p.bytes = laidL p.num p.width := by simp [Part.bytes, his]
      have hts : numS (some (p.bytes ++ R)) (p.width : Int) = (p.num, some R) := by rw [hb]; exact numS_front hw8.1 hw8.2 (Part.num_lt hpo.1) R
      rw [his] at c3
      have cM := Lib.hid (fun W (h : RdAt W r (some (p.bytes ++ R))) => Num_any p.width r _ W hstl h)
      simp only [hts] at cM
      have cW := Lib.hid (fun W => width_any p hpo.1 W)
      have cN := Lib.hid (fun W => num_any p hpo.1 W)
      rw [his] at cW cN
      obtain ⟨S, hS⟩ : ∃ S : St, some (p.bytes ++ R) = S := ⟨_, rfl⟩
      rw [hS] at hR cM
      obtain ⟨D, hD⟩ : ∃ D, p.width = D := ⟨_, rfl⟩
      obtain ⟨X, hX⟩ : ∃ X, p.num = X := ⟨_, rfl⟩
      rw [hD] at cW cM
      rw [hX] at cN cM
      clear hb hts his hstl hli hS hD hX hw8
      obtain ⟨n, k, t, b⟩ := p
      simp only at c0 c1 c2 cW cN
      go_upto_region 7 with fail
      refine Sched.wp_region_sched 12 (fun W W' => W.grownBy W' (some r)) (VX [.pointer (some ⟨r, 0, none⟩), .slice (some ⟨g, o, none⟩) N cap, .int .i64 (i : Int), .pointer (some ⟨g, o + i * 4, none⟩), .agg #[.int .u64 (n : Int), .int .u8 (k : Int), .string (str t), .bool false], .int .i64 (D : Int), .int .u64 (X : Int), .slice (some ⟨g, o, none⟩) N cap, .int .i64 (i : Int), .pointer (some ⟨g, o + i * 4, none⟩), .agg #[.int .u64 (n : Int), .int .u8 (k : Int), .string (str t), .bool false], .int .u64 (X : Int)]) (fun done _ W => RdIf r (some R) S (done 6) W) (by kernel_rfl) (by kernel_rfl) (by kernel_rfl) (fun h1 h2 => grown_trans h1 h2) (fun h _ => h) (grown_drew _ _) (fun _ => hR.out) (Sched.StepsA.steps (by kernel_rfl) ?hSB) ?hQB
      case hSB =>
       simp only [List.take_succ_cons, List.take_zero]
       refine ⟨?_, ?_, ?_, ?_, ?_, ?_, ?_, ?_, ?_, ?_, ?_, ?_, trivial⟩
       · intro ys done W aa hE hn hF hD hZ hG hO
         replace hE : wi.grownBy W (some r) := hE
         have o0 := hO 0 (by kernel_rfl)
         replace o0 : aa.tmps[0]? = some (.pointer (some ⟨r, 0, none⟩)) := o0
         replace hZ : RdIf r (some R) S (done 6) W := hZ
         replace hZ := Lib.hid hZ
         replace hE := Lib.hid hE
         go_wp2_with fail
         exact ⟨_, rfl, grown_refl _ _, VX.of rfl rfl, hZ.out⟩
       · intro ys done W aa hE hn hF hD hZ hG hO
         replace hE : wi.grownBy W (some r) := hE
         have o1 := hO 1 (by kernel_rfl)
         replace o1 : aa.tmps[1]? = some (.slice (some ⟨g, o, none⟩) N cap) := o1
         replace hZ : RdIf r (some R) S (done 6) W := hZ
         replace hZ := Lib.hid hZ
         replace hE := Lib.hid hE
         go_wp2_with fail
         exact ⟨_, rfl, grown_refl _ _, VX.of rfl rfl, hZ.out⟩
       · intro ys done W aa hE hn hF hD hZ hG hO
         replace hE : wi.grownBy W (some r) := hE
         have o5 := hO 5 (by kernel_rfl)
         replace o5 : aa.tmps[5]? = some (.int .i64 (i : Int)) := o5
         replace hZ : RdIf r (some R) S (done 6) W := hZ
         replace hZ := Lib.hid hZ
         replace hE := Lib.hid hE
         go_wp2_with fail
         exact ⟨_, rfl, grown_refl _ _, VX.of rfl rfl, hZ.out⟩
       · intro ys done W aa hE hn hF hD hZ hG hO
         replace hE : wi.grownBy W (some r) := hE
         have v1 : ys 1 = .slice (some ⟨g, o, none⟩) N cap := hF 1 (by decide) (hD 1 (by kernel_rfl)) _ rfl
         have g1 := hG 1 26 rfl (Nat.le_of_ble_eq_true rfl)
         rw [v1] at g1
         have v2 : ys 2 = .int .i64 (i : Int) := hF 2 (by decide) (hD 2 (by kernel_rfl)) _ rfl
         have g2 := hG 2 27 rfl (Nat.le_of_ble_eq_true rfl)
         rw [v2] at g2
         replace hZ : RdIf r (some R) S (done 6) W := hZ
         replace hZ := Lib.hid hZ
         replace hE := Lib.hid hE
         go_wp2_with fail
         exact ⟨_, rfl, grown_refl _ _, VX.of rfl rfl, hZ.out⟩
       · intro ys done W aa hE hn hF hD hZ hG hO
         replace hE : wi.grownBy W (some r) := hE
         have v3 : ys 3 = .pointer (some ⟨g, o + i * 4, none⟩) := hF 3 (by decide) (hD 3 (by kernel_rfl)) _ rfl
         have g3 := hG 3 28 rfl (Nat.le_of_ble_eq_true rfl)
         rw [v3] at g3
         have d0 := (gcell hE hgi hgr).trans c0
         have d1 := (gcell hE hgi hgr).trans c1
         have d2 := (gcell hE hgi hgr).trans c2
         have d3 := (gcell hE hgi hgr).trans c3
         replace hZ : RdIf r (some R) S (done 6) W := hZ
         replace hZ := Lib.hid hZ
         replace hE := Lib.hid hE
         go_wp2_with fail
         exact ⟨_, rfl, grown_refl _ _, VX.of rfl rfl, hZ.out⟩
       · intro ys done W aa hE hn hF hD hZ hG hO
         replace hE : wi.grownBy W (some r) := hE
         have v4 : ys 4 = .agg #[.int .u64 (n : Int), .int .u8 (k : Int), .string (str t), .bool false] := hF 4 (by decide) (hD 4 (by kernel_rfl)) _ rfl
         have g4 := hG 4 29 rfl (Nat.le_of_ble_eq_true rfl)
         rw [v4] at g4
         replace hZ : RdIf r (some R) S (done 6) W := hZ
         replace hZ := Lib.hid hZ
         replace hE := Lib.hid hE
         go_wp2_with fail
         refine (cW.out W).mono ?_
         rintro e W' ⟨rfl, hb'⟩
         replace hR' := Lib.hid (hZ.out.on hb')
         replace hb' := Lib.hid hb'
         go_wp2_with fail
         exact ⟨_, rfl, grown_of hb'.out r, VX.of rfl rfl, hR'.out⟩
       · intro ys done W aa hE hn hF hD hZ hG hO
         replace hE : wi.grownBy W (some r) := hE
         have v0 : ys 0 = .pointer (some ⟨r, 0, none⟩) := hF 0 (by decide) (hD 0 (by kernel_rfl)) _ rfl
         have g0 := hG 0 25 rfl (Nat.le_of_ble_eq_true rfl)
         rw [v0] at g0
         have v5 : ys 5 = .int .i64 (D : Int) := hF 5 (by decide) (hD 5 (by kernel_rfl)) _ rfl
         have g5 := hG 5 30 rfl (Nat.le_of_ble_eq_true rfl)
         rw [v5] at g5
         replace hZ : RdAt W r S := by rw [show done 6 = false from hn] at hZ; exact hZ
         replace hZ := Lib.hid hZ
         replace hE := Lib.hid hE
         go_wp2_with fail
         refine (cM.out W hZ.out).mono ?_
         rintro e W' ⟨rfl, hR', hb'⟩
         replace hR' := Lib.hid hR'
         replace hb' := Lib.hid hb'
         go_wp2_with fail
         exact ⟨_, rfl, hb'.out, VX.of rfl rfl, hR'.out⟩
       · intro ys done W aa hE hn hF hD hZ hG hO
         replace hE : wi.grownBy W (some r) := hE
         have o1 := hO 1 (by kernel_rfl)
         replace o1 : aa.tmps[1]? = some (.slice (some ⟨g, o, none⟩) N cap) := o1
         replace hZ : RdIf r (some R) S (done 6) W := hZ
         replace hZ := Lib.hid hZ
         replace hE := Lib.hid hE
         go_wp2_with fail
         exact ⟨_, rfl, grown_refl _ _, VX.of rfl rfl, hZ.out⟩
       · intro ys done W aa hE hn hF hD hZ hG hO
         replace hE : wi.grownBy W (some r) := hE
         have o5 := hO 5 (by kernel_rfl)
         replace o5 : aa.tmps[5]? = some (.int .i64 (i : Int)) := o5
         replace hZ : RdIf r (some R) S (done 6) W := hZ
         replace hZ := Lib.hid hZ
         replace hE := Lib.hid hE
         go_wp2_with fail
         exact ⟨_, rfl, grown_refl _ _, VX.of rfl rfl, hZ.out⟩
       · intro ys done W aa hE hn hF hD hZ hG hO
         replace hE : wi.grownBy W (some r) := hE
         have v7 : ys 7 = .slice (some ⟨g, o, none⟩) N cap := hF 7 (by decide) (hD 7 (by kernel_rfl)) _ rfl
         have g7 := hG 7 32 rfl (Nat.le_of_ble_eq_true rfl)
         rw [v7] at g7
         have v8 : ys 8 = .int .i64 (i : Int) := hF 8 (by decide) (hD 8 (by kernel_rfl)) _ rfl
         have g8 := hG 8 33 rfl (Nat.le_of_ble_eq_true rfl)
         rw [v8] at g8
         replace hZ : RdIf r (some R) S (done 6) W := hZ
         replace hZ := Lib.hid hZ
         replace hE := Lib.hid hE
         go_wp2_with fail
         exact ⟨_, rfl, grown_refl _ _, VX.of rfl rfl, hZ.out⟩
       · intro ys done W aa hE hn hF hD hZ hG hO
         replace hE : wi.grownBy W (some r) := hE
         have v9 : ys 9 = .pointer (some ⟨g, o + i * 4, none⟩) := hF 9 (by decide) (hD 9 (by kernel_rfl)) _ rfl
         have g9 := hG 9 34 rfl (Nat.le_of_ble_eq_true rfl)
         rw [v9] at g9
         have d0 := (gcell hE hgi hgr).trans c0
         have d1 := (gcell hE hgi hgr).trans c1
         have d2 := (gcell hE hgi hgr).trans c2
         have d3 := (gcell hE hgi hgr).trans c3
         replace hZ : RdIf r (some R) S (done 6) W := hZ
         replace hZ := Lib.hid hZ
         replace hE := Lib.hid hE
         go_wp2_with fail
         exact ⟨_, rfl, grown_refl _ _, VX.of rfl rfl, hZ.out⟩
       · intro ys done W aa hE hn hF hD hZ hG hO
         replace hE : wi.grownBy W (some r) := hE
         have v10 : ys 10 = .agg #[.int .u64 (n : Int), .int .u8 (k : Int), .string (str t), .bool false] := hF 10 (by decide) (hD 10 (by kernel_rfl)) _ rfl
         have g10 := hG 10 35 rfl (Nat.le_of_ble_eq_true rfl)
         rw [v10] at g10
         replace hZ : RdIf r (some R) S (done 6) W := hZ
         replace hZ := Lib.hid hZ
         replace hE := Lib.hid hE
         go_wp2_with fail
         refine (cN.out W).mono ?_
         rintro e W' ⟨rfl, hb'⟩
         replace hR' := Lib.hid (hZ.out.on hb')
         replace hb' := Lib.hid hb'
         go_wp2_with fail
         exact ⟨_, rfl, grown_of hb'.out r, VX.of rfl rfl, hR'.out⟩
      case hQB =>
       intro ys w6 hE hF hZ
       replace hE : wi.grownBy w6 (some r) := hE
       obtain ⟨done, hd, hZ⟩ := hZ
       replace hZ : RdIf r (some R) S (done 6) w6 := hZ
       rw [hd 6 (by decide)] at hZ
       replace hZ := Lib.hid (show RdAt w6 r (some R) from hZ)
       replace hE := Lib.hid (grown_trans hG0.out hE)
       have v6 : ys 6 = .int .u64 (X : Int) := hF 6 (by decide) _ rfl
       have v11 : ys 11 = .int .u64 (X : Int) := hF 11 (by decide) _ rfl
       simp only [List.take_succ_cons, List.take_zero, List.drop_succ_cons, List.drop_zero, Sched.fill, v6, v11]
       clear hF hG0 hR c0 c1 c2 c3 v6 v11
       go_simp
       go_wp2_with fail
       go_roundw
       case rel => exact ⟨i + 1, by go_num, by omega, by rw [hRR.out]; exact hZ, hE⟩
       case measure => simp [intOf]; omega

end Go.Proofs.Ytjjmhkafhbeabaa.Oct

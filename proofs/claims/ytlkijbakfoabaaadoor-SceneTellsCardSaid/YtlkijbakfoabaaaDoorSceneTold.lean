/-
  The laws' own 'told' and 'ints', where they hold.
-/
import Derived.Test.YtlkijbakfoabaaaDoorSceneAs2
import Derived.Test.YtlkijbakfoabaaaDoorSceneRefOwners
namespace Go.Proofs.YtlkijbakfoabaaaDoor.Scene
open Go.RowKit Go.Sort Go.Proofs.YtlkijbakfoabaaaDoor.Mem
set_option linter.unusedVariables false

set_option maxHeartbeats 1000000 in
theorem told_yes (u : Value) (f : Int × Int × Int) (w : World) (hg : Hd w) (h : ErrAt w u f) (hz : f.1 = 0 → f = (0, 0, 0)) :
    Calls Tryd.prog 10 #[u, faultOf f] w fun e w' => e = .returned (.bool true) ∧ Go.RowKit.Below w.heap.size w w' := by
  obtain ⟨c, p, i⟩ := f
  rw [faultOf_mk]
  have hP := At.new w 43 #[.int .i64 c, .int .i64 p, .int .i64 i]
  have hb : Go.RowKit.Below w.heap.size w (w.alloc (.cells #[.int .i64 c, .int .i64 p, .int .i64 i] 43)) := (Go.RowKit.Below.refl _ _).alloc (Nat.le_refl _) _
  have hg1 := hg.alloc (.cells #[.int .i64 c, .int .i64 p, .int .i64 i] 43)
  have he1 : ErrAt (w.alloc (.cells #[.int .i64 c, .int .i64 p, .int .i64 i] 43)) u (c, p, i) := h.keep hb (Nat.le_refl _)
  have hpos := hg.pos
  generalize hw1 : w.alloc (.cells #[.int .i64 c, .int .i64 p, .int .i64 i] 43) = w1 at *
  have c0 := hP.cell 0
  have c1 := hP.cell 1
  have c2 := hP.cell 2
  simp at c0 c1 c2
  have kc0 := cell_regrown c0
  have kc1 := cell_regrown c1
  have kc2 := cell_regrown c2
  have hpos1 : 0 < w1.heap.size := hg1.pos
  have kT := fun d os => Calls.regrown_of (Told_any u (c, p, i) (grow (redrawn w1 d) os) (hg1.keep (below_regrown w1 d os) hpos1) (he1.keep (below_regrown w1 d os) (Nat.le_refl _)) hz)
  simp only at kT
  have hz' := Lib.hid hz
  have hg' := Lib.hid hg
  have hg1' := Lib.hid hg1
  clear hz hg hg1
  rcases h with ⟨h1, rfl⟩ | ⟨h1, q, rfl, hq⟩
  · simp only at h1
    subst h1
    clear he1
    go_enter Tryd.func10, Tryd.ntmps10
    go_upto_region 1 with fail
    refine wp_region_quiet_below (by kernel_rfl) (by kernel_rfl) ?_
    repeat (go_big_quiet_step (with_reducible exact kT _ _))
    refine wpQuiet_nil ?_
    intro _ hw'
    obtain ⟨⟨dq, osq⟩, hw''⟩ := hw'
    subst hw''
    have hB2 := hb.trans ((below_regrown w1 dq osq).mono hb.size)
    generalize grow (redrawn w1 dq) osq = w2 at *
    clear kT kc0 kc1 kc2 c0 c1 c2 hP hb
    go_wp2
    go_ret
    exact ⟨rfl, hB2⟩
  · simp only at h1
    have t1 : (c == 0) = false := by simpa using h1
    have t2 : (c != 0) = true := by simpa using h1
    clear he1 hq h1
    go_enter Tryd.func10, Tryd.ntmps10
    go_upto_region 1 with fail
    refine wp_region_quiet_below (by kernel_rfl) (by kernel_rfl) ?_
    repeat (go_big_quiet_step (with_reducible exact kT _ _))
    refine wpQuiet_nil ?_
    intro _ hw'
    obtain ⟨⟨dq, osq⟩, hw''⟩ := hw'
    subst hw''
    have hB2 := hb.trans ((below_regrown w1 dq osq).mono hb.size)
    generalize grow (redrawn w1 dq) osq = w2 at *
    clear kT kc0 kc1 kc2 c0 c1 c2 hP hb
    go_wp2
    go_ret
    exact ⟨rfl, hB2⟩

theorem row_len {B : Nat} {W : World} {v : Value} {xs : List Int} (h : RowB B W v 1 (xs.map inV)) : ∃ x cap, v = .slice x xs.length cap ∧ xs.length ≤ cap ∧ cap ≤ maxLen := by
  obtain ⟨x, cap, rfl, h1, h2, _⟩ := h
  simp only [List.length_map] at h1 ⊢
  exact ⟨x, cap, rfl, h1, h2⟩

set_option maxHeartbeats 1000000 in
theorem ints_yes (a b : Value) (xs : List Int) (w : World) (ha : RowB w.heap.size w a 1 (xs.map inV)) (hb : RowB w.heap.size w b 1 (xs.map inV)) :
    Calls Tryd.prog 13 #[a, b] w fun e w' => e = .returned (.bool true) ∧ Go.RowKit.Below w.heap.size w w' := by
  obtain ⟨xa, capa, rfl, hla, hca⟩ := row_len ha
  obtain ⟨xb, capb, rfl, hlb, hcb⟩ := row_len hb
  unfold maxLen at hca hcb
  have ha' := Lib.hid ha
  have hb' := Lib.hid hb
  clear ha hb
  have he : ((xs.length : Int) == (xs.length : Int)) = true := by simp
  have he2 : ((xs.length : Int) != (xs.length : Int)) = false := by simp
  go_enter Tryd.func13, Tryd.ntmps13
  go_wp2_with fail
  go_loopw [5] (fun i wr => ∃ k : Nat, i = .int .i64 k ∧ k ≤ xs.length ∧ Go.RowKit.Below w.heap.size w wr) (fun i _ => xs.length - (intOf i).toNat)
  case atStart => exact ⟨0, rfl, Nat.zero_le _, Go.RowKit.Below.refl _ _⟩
  case round =>
    obtain ⟨k, rfl, hk, hbw⟩ := hrel
    by_cases hlt : k < xs.length
    · have hx : xs[k]? = some (xs[k]'hlt) := List.getElem?_eq_getElem hlt
      generalize xs[k]'hlt = x at hx
      obtain ⟨g1, o1, rfl, _, hc1⟩ := RowB.row (ha'.out.keep hbw (Nat.le_refl _)) (j := k) (r := inV x) (by rw [List.getElem?_map, hx]; rfl)
      obtain ⟨g2, o2, rfl, _, hc2⟩ := RowB.row (hb'.out.keep hbw (Nat.le_refl _)) (j := k) (r := inV x) (by rw [List.getElem?_map, hx]; rfl)
      have d1 := hc1 0 _ rfl
      have d2 := hc2 0 _ rfl
      simp at d1 d2
      have hxx : (x != x) = false := by simp
      clear hc1 hc2 hx
      go_upto_region 6 with fail
      go_quiet (fail)
      go_wp2
      go_roundw
      case rel => exact ⟨k + 1, by go_num, hlt, below_drewN hbw nq⟩
      case measure => simp [intOf]; omega
    · obtain rfl : k = xs.length := by omega
      go_wp2
      go_ret
      exact ⟨rfl, hbw⟩

end Go.Proofs.YtlkijbakfoabaaaDoor.Scene

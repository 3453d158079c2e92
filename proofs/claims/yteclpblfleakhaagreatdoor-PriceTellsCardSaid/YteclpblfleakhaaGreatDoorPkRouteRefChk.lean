import Derived.Test.YteclpblfleakhaaGreatDoorPkSched
import Derived.Test.YteclpblfleakhaaGreatDoorPkOrderChk

namespace Go.Proofs.YteclpblfleakhaaGreatDoor.Route
open Go.RowKit Go.Sort Go.Proofs.YteclpblfleakhaaGreatDoor.Mem
set_option linter.unusedVariables false
theorem Row.cutTo {B : Nat} {W : World} {x : Option Addr} {N cap k : Nat} {l : List (Int × Int)} (h : Row B W (.slice x N cap) l) (hl : l.length = N) (hk : k ≤ N) : Row B W (.slice x k cap) (l.take k) := by
 obtain ⟨x', cap', e, h1, h2, h0, h3⟩ := h
 simp only [Value.slice.injEq, List.length_map] at e
 obtain ⟨rfl, rfl, rfl⟩ := e
 simp only [List.length_map] at h1
 refine ⟨x, cap, by simp; omega, by simp; omega, h2, fun hx => ?_, fun j r hj => ?_⟩
 · have := h0 hx
   simp at this
   simp [this]
 · rw [List.getElem?_map] at hj
   have hjk : j < k := by
    rcases Nat.lt_or_ge j k with h | h
    · exact h
    · rw [List.getElem?_eq_none (by simp; omega)] at hj; cases hj
   rw [List.getElem?_take_of_lt hjk] at hj
   exact h3 j r (by rw [List.getElem?_map]; exact hj)
theorem chk_long {l : List (Int × Int)} (h : 16 < l.length) : checkV l = 11 := by unfold checkV; rw [if_pos h]
theorem chk_bad {l : List (Int × Int)} (h : l.length ≤ 16) (hb : isR l = false) : checkV l = 8 := by unfold checkV; rw [if_neg (by omega), hb]; rfl
theorem chk_good {l : List (Int × Int)} (h : l.length ≤ 16) (hb : isR l = true) : checkV l = 0 := by unfold checkV; rw [if_neg (by omega), hb]; rfl
theorem ok_next {l : List (Int × Int)} {k : Nat} {s : Int × Int} (hs : l[k]? = some s) (h : okFrom l (l.take k) (l.drop k) = isR l) : (okAt l (l.take k) s = true → okFrom l (l.take (k + 1)) (l.drop (k + 1)) = isR l) ∧ (okAt l (l.take k) s = false → isR l = false) := by
 obtain ⟨hlt, hx⟩ := List.getElem?_eq_some_iff.1 hs
 rw [List.drop_eq_getElem_cons hlt, hx, okFrom] at h
 refine ⟨fun ho => ?_, fun ho => ?_⟩
 · rw [take_get hs, ← h, ho, Bool.true_and]
 · rw [← h, ho, Bool.false_and]
theorem ok_no {l pre : List (Int × Int)} {s : Int × Int} (h : ¬ (0 ≤ s.1 ∧ (s.2 = 0 ∨ s.2 = 1) ∧ cnt (s.1, 0) l = 1 ∧ cnt (s.1, 1) l = 1 ∧ (s.2 = 1 → cnt (s.1, 0) pre = 1))) : okAt l pre s = false := by
 cases ho : okAt l pre s
 · rfl
 · exact absurd (okAt_iff.1 ho) h
def bptr (g : Nat) : Value := .pointer (some ⟨g, 0, none⟩)
def V7 (q : Nat) (s1 : Int) : Nat → Value → World → Prop
 | 0, y, _ => y = bptr q
 | 1, y, _ => y = .int .i64 s1
 | 2, y, _ => y = .agg #[.int .i64 s1, .int .i64 0]
 | 3, y, _ => y = bptr q
 | 4, y, _ => y = .int .i64 s1
 | 5, y, _ => y = .agg #[.int .i64 s1, .int .i64 1]
 | _, _, _ => True
theorem V7.keep {q : Nat} {s1 : Int} {i : Nat} {v : Value} {W V : World} (h : V7 q s1 i v W) : V7 q s1 i v V := by
 match i with
 | 0 | 1 | 2 | 3 | 4 | 5 => exact h
 | i + 6 => trivial
structure Z7 (N : Nat) (s1 : Int) (done : Nat → Bool) (ys : Nat → Value) (W : World) : Prop where
 ord : done 8 = true → done 6 = true
 one : done 6 = true → ∃ (g : Nat) (a b : Int), ys 6 = bptr g ∧ N ≤ g ∧ At W g 82 #[.int .i64 a, .int .i64 b] ∧ (done 8 = true → a = s1 ∧ b = 0)
 two : done 7 = true → ∃ (g : Nat) (a b : Int), ys 7 = bptr g ∧ N ≤ g ∧ At W g 82 #[.int .i64 a, .int .i64 b]
 ne : done 6 = true → done 7 = true → ys 6 ≠ ys 7
theorem mark_of {done : Nat → Bool} {k i : Nat} (h : done i = true) : Sched.mark done k i = true := by simp [Sched.mark, h]
theorem mark_ne {done : Nat → Bool} {k i : Nat} (h : i ≠ k) : Sched.mark done k i = done i := by simp [Sched.mark, h]
theorem upd_ne {ys : Nat → Value} {k i : Nat} {v : Value} (h : i ≠ k) : Sched.upd ys k v i = ys i := by simp [Sched.upd, h]
theorem upd_eq {ys : Nat → Value} {k : Nat} {v : Value} : Sched.upd ys k v k = v := by simp [Sched.upd]
theorem Z7.start (N : Nat) (s1 : Int) (ys : Nat → Value) (W : World) : Z7 N s1 (fun _ => false) ys W := ⟨fun h => (by cases h), fun h => (by cases h), fun h => (by cases h), fun h => (by cases h)⟩
theorem Z7.light {N k : Nat} {s1 : Int} {done : Nat → Bool} {ys : Nat → Value} {W : World} {v : Value} (h : Z7 N s1 done ys W) (hk : k < 6) : Z7 N s1 (Sched.mark done k) (Sched.upd ys k v) W := by
 refine ⟨fun h1 => ?_, fun h1 => ?_, fun h1 => ?_, fun h1 h2 => ?_⟩
 · rw [mark_ne (by omega)] at h1 ⊢; exact h.ord h1
 · rw [mark_ne (by omega)] at h1
   rw [upd_ne (by omega), mark_ne (by omega)]
   exact h.one h1
 · rw [mark_ne (by omega)] at h1
   rw [upd_ne (by omega)]
   exact h.two h1
 · rw [mark_ne (by omega)] at h1 h2
   rw [upd_ne (by omega), upd_ne (by omega)]
   exact h.ne h1 h2
theorem bptr_ne {a b : Nat} (h : a ≠ b) : bptr a ≠ bptr b := fun e => h (congrArg (fun v : Value => match v with | .pointer (some x) => x.block | _ => 0) e)
theorem Z7.new6 {N : Nat} {s1 : Int} {done : Nat → Bool} {ys : Nat → Value} {W : World} (h : Z7 N s1 done ys W) (hn : done 6 = false) (hN : N ≤ W.heap.size) : Z7 N s1 (Sched.mark done 6) (Sched.upd ys 6 (bptr W.heap.size)) (W.alloc (.cells #[.int .i64 0, .int .i64 0] 82)) := by
 refine ⟨fun _ => by simp [Sched.mark], fun _ => ⟨W.heap.size, 0, 0, upd_eq, hN, At.new _ _ _, fun h8 => ?_⟩, fun h1 => ?_, fun _ h2 => ?_⟩
 · rw [mark_ne (by omega)] at h8
   have := h.ord h8
   rw [hn] at this; cases this
 · rw [mark_ne (by omega)] at h1
   rw [upd_ne (by omega)]
   obtain ⟨g, a, b, e, h3, h4⟩ := h.two h1
   exact ⟨g, a, b, e, h3, h4.alloc _⟩
 · rw [mark_ne (by omega)] at h2
   obtain ⟨g, a, b, e, h3, h4⟩ := h.two h2
   rw [upd_eq, upd_ne (by omega), e]
   exact bptr_ne (by have := h4.inside; omega)
theorem Z7.new7 {N : Nat} {s1 : Int} {done : Nat → Bool} {ys : Nat → Value} {W : World} (h : Z7 N s1 done ys W) (hN : N ≤ W.heap.size) : Z7 N s1 (Sched.mark done 7) (Sched.upd ys 7 (bptr W.heap.size)) (W.alloc (.cells #[.int .i64 0, .int .i64 0] 82)) := by
 refine ⟨fun h1 => ?_, fun h1 => ?_, fun _ => ⟨W.heap.size, 0, 0, upd_eq, hN, At.new _ _ _⟩, fun h1 _ => ?_⟩
 · rw [mark_ne (by omega)] at h1 ⊢; exact h.ord h1
 · rw [mark_ne (by omega)] at h1
   rw [upd_ne (by omega), mark_ne (by omega)]
   obtain ⟨g, a, b, e, h3, h4, h5⟩ := h.one h1
   exact ⟨g, a, b, e, h3, h4.alloc _, h5⟩
 · rw [mark_ne (by omega)] at h1
   obtain ⟨g, a, b, e, h3, h4, _⟩ := h.one h1
   rw [upd_eq, upd_ne (by omega), e]
   exact bptr_ne (by have := h4.inside; omega)
theorem Z7.put8 {N g : Nat} {s1 a b : Int} {done : Nat → Bool} {ys : Nat → Value} {W : World} {v : Value} (h : Z7 N s1 done ys W) (h6 : done 6 = true) (e : ys 6 = bptr g) (hN : N ≤ g) (hA : At W g 82 #[.int .i64 a, .int .i64 b]) :
 Z7 N s1 (Sched.mark done 8) (Sched.upd ys 8 v) ((W.setCell ⟨g, 0, none⟩ (.int .i64 s1)).setCell ⟨g, 1, none⟩ (.int .i64 0)) := by
 refine ⟨fun _ => mark_of h6, fun _ => ⟨g, s1, 0, by rw [upd_ne (by omega)]; exact e, hN, by simpa using (hA.put 0 (.int .i64 s1)).put 1 (.int .i64 0), fun _ => ⟨rfl, rfl⟩⟩, fun h1 => ?_, fun h1 h2 => ?_⟩
 · rw [mark_ne (by omega)] at h1
   rw [upd_ne (by omega)]
   obtain ⟨g2, a2, b2, e2, h3, h4⟩ := h.two h1
   have hne : g2 ≠ g := by
    rintro rfl
    exact h.ne h6 h1 (by rw [e, e2])
   exact ⟨g2, a2, b2, e2, h3, (h4.far hne 0 _).far hne 1 _⟩
 · rw [mark_ne (by omega)] at h2
   rw [upd_ne (by omega), upd_ne (by omega)]
   exact h.ne h6 h2
set_option maxRecDepth 100000 in
set_option maxHeartbeats 4000000 in
theorem refCheck_any (v : Value) (l : List (Int × Int)) (hl : l.length ≤ 1000000) (w : World) (h : Row w.heap.size w v l) :
 Calls Tryz.prog 83 #[v] w fun e w' => e = .returned (.int .i64 (checkV l)) ∧ Below w.heap.size w w' := by
 obtain ⟨x, N, cap, rfl, hN', h0', hc1, hc2⟩ := h.opened
 have h' := Lib.hid h
 rw [hN'.out] at hl
 clear h
 by_cases h16 : 16 < N
 · have hv := Lib.hid (chk_long (l := l) (by rw [hN'.out]; exact h16))
   go_enter Tryz.func83, Tryz.ntmps83
   go_wp2
   go_ret
   exact ⟨ret_int hv.out.symm, Below.refl _ _⟩
 · have hbad := Lib.hid (chk_bad (l := l) (by rw [hN'.out]; omega))
   have hgood := Lib.hid (chk_good (l := l) (by rw [hN'.out]; omega))
   go_enter Tryz.func83, Tryz.ntmps83
   go_wp2
   go_loopw [3] (fun i wr => ∃ k : Nat, k ≤ N ∧ i = .int .i64 k ∧ Hid (okFrom l (l.take k) (l.drop k) = isR l) ∧ Below w.heap.size w wr) (fun i _ => N - (intOf i).toNat)
   case atStart => exact ⟨0, by omega, rfl, Lib.hid (by rw [List.take_zero, List.drop_zero, okFrom_isR]), Below.refl _ _⟩
   case round =>
    obtain ⟨k, hk, rfl, hok, hbw⟩ := hrel
    by_cases hlt : k < N
    · obtain ⟨⟨s1, s2⟩, hs, _⟩ := drop_get (l := l) (k := k) (by rw [hN'.out]; exact hlt)
      obtain ⟨gg, o, rfl, hg, e1, e2⟩ := Row.stop h'.out hs
      have e1 := (hbw.cell (p := ⟨gg, o + k * 2, none⟩) hg).trans e1
      have e2 := (hbw.cell (p := ⟨gg, o + k * 2 + 1, none⟩) hg).trans e2
      simp at e1 e2
      have hnx := Lib.hid (ok_next hs hok.out)
      clear hs hok
      have hS := At.new wr 82 #[.int .i64 s1, .int .i64 s2]
      have hb1 := hbw.alloc hbw.size (.cells #[.int .i64 s1, .int .i64 s2] 82)
      have hq : w.heap.size ≤ wr.heap.size := hbw.size
      go_upto_region 7 with fail
      generalize (wr.alloc (.cells #[.int .i64 s1, .int .i64 s2] 82)) = w1 at *
      generalize wr.heap.size = q at *
      obtain ⟨M, hM1, hM2⟩ : ∃ M, M ≤ w1.heap.size ∧ w1.heap.size ≤ M := ⟨_, Nat.le_refl _, Nat.le_refl _⟩
      refine Sched.wp_region_sched 9 (fun W V => Below M W V) (V7 q s1) (Z7 M s1) (by kernel_rfl) (by kernel_rfl) (by kernel_rfl) (fun h1 h2 => h1.trans h2) (fun h1 _ => V7.keep h1) (Below.refl _ _).drew (fun ys => Z7.start _ _ _ _) (Sched.StepsA.steps (by kernel_rfl) ?hS7) ?hQ7
      case hS7 =>
       simp only [List.take_succ_cons, List.take_zero]
       have hqi := hS.inside
       refine ⟨?_, ?_, ?_, ?_, ?_, ?_, ?_, ?_, ?_, trivial⟩
       · intro ys done W aa hE hn hF hD hZ hG hO
         replace hE : Below M w1 W := hE
         have hsz := Nat.le_trans hM1 hE.size
         have hSW := hS.keep hE (show q < M by omega)
         have p0 := hSW.cell 0
         simp at p0
         have o4 := hO 4 (by kernel_rfl)
         replace o4 : aa.tmps[4]? = some (.pointer (some ⟨q, 0, none⟩)) := o4
         go_wp2_with fail
         exact ⟨_, rfl, Below.refl _ _, rfl, hZ.light (by decide)⟩
       · intro ys done W aa hE hn hF hD hZ hG hO
         replace hE : Below M w1 W := hE
         have hsz := Nat.le_trans hM1 hE.size
         have hSW := hS.keep hE (show q < M by omega)
         have p0 := hSW.cell 0
         simp at p0
         have v0 := hF 0 (by decide) (hD 0 (by kernel_rfl))
         replace v0 : ys 0 = bptr q := v0
         have g0 := hG 0 20 rfl (Nat.le_of_ble_eq_true rfl)
         rw [v0] at g0
         unfold bptr at g0
         go_wp2_with fail
         exact ⟨_, rfl, Below.refl _ _, rfl, hZ.light (by decide)⟩
       · intro ys done W aa hE hn hF hD hZ hG hO
         replace hE : Below M w1 W := hE
         have hsz := Nat.le_trans hM1 hE.size
         have hSW := hS.keep hE (show q < M by omega)
         have p0 := hSW.cell 0
         simp at p0
         have v0 := hF 1 (by decide) (hD 1 (by kernel_rfl))
         replace v0 : ys 1 = .int .i64 s1 := v0
         have g0 := hG 1 21 rfl (Nat.le_of_ble_eq_true rfl)
         rw [v0] at g0
         go_wp2_with fail
         exact ⟨_, rfl, Below.refl _ _, rfl, hZ.light (by decide)⟩
       · intro ys done W aa hE hn hF hD hZ hG hO
         replace hE : Below M w1 W := hE
         have hsz := Nat.le_trans hM1 hE.size
         have hSW := hS.keep hE (show q < M by omega)
         have p0 := hSW.cell 0
         simp at p0
         have o4 := hO 4 (by kernel_rfl)
         replace o4 : aa.tmps[4]? = some (.pointer (some ⟨q, 0, none⟩)) := o4
         go_wp2_with fail
         exact ⟨_, rfl, Below.refl _ _, rfl, hZ.light (by decide)⟩
       · intro ys done W aa hE hn hF hD hZ hG hO
         replace hE : Below M w1 W := hE
         have hsz := Nat.le_trans hM1 hE.size
         have hSW := hS.keep hE (show q < M by omega)
         have p0 := hSW.cell 0
         simp at p0
         have v0 := hF 3 (by decide) (hD 3 (by kernel_rfl))
         replace v0 : ys 3 = bptr q := v0
         have g0 := hG 3 23 rfl (Nat.le_of_ble_eq_true rfl)
         rw [v0] at g0
         unfold bptr at g0
         go_wp2_with fail
         exact ⟨_, rfl, Below.refl _ _, rfl, hZ.light (by decide)⟩
       · intro ys done W aa hE hn hF hD hZ hG hO
         replace hE : Below M w1 W := hE
         have hsz := Nat.le_trans hM1 hE.size
         have hSW := hS.keep hE (show q < M by omega)
         have p0 := hSW.cell 0
         simp at p0
         have v0 := hF 4 (by decide) (hD 4 (by kernel_rfl))
         replace v0 : ys 4 = .int .i64 s1 := v0
         have g0 := hG 4 24 rfl (Nat.le_of_ble_eq_true rfl)
         rw [v0] at g0
         go_wp2_with fail
         exact ⟨_, rfl, Below.refl _ _, rfl, hZ.light (by decide)⟩
       · intro ys done W aa hE hn hF hD hZ hG hO
         replace hE : Below M w1 W := hE
         have hsz := Nat.le_trans hM1 hE.size
         have hSW := hS.keep hE (show q < M by omega)
         have p0 := hSW.cell 0
         simp at p0
         go_wp2_with fail
         exact ⟨_, rfl, (Below.refl _ _).alloc hsz _, trivial, hZ.new6 hn hsz⟩
       · intro ys done W aa hE hn hF hD hZ hG hO
         replace hE : Below M w1 W := hE
         have hsz := Nat.le_trans hM1 hE.size
         have hSW := hS.keep hE (show q < M by omega)
         have p0 := hSW.cell 0
         simp at p0
         go_wp2_with fail
         exact ⟨_, rfl, (Below.refl _ _).alloc hsz _, trivial, hZ.new7 hsz⟩
       · intro ys done W aa hE hn hF hD hZ hG hO
         replace hE : Below M w1 W := hE
         have hsz := Nat.le_trans hM1 hE.size
         have hSW := hS.keep hE (show q < M by omega)
         have p0 := hSW.cell 0
         simp at p0
         obtain ⟨g, a, b, e, hgN, hA, _⟩ := hZ.one (hD 6 (by kernel_rfl))
         have g6 := hG 6 5 rfl (Nat.le_of_ble_eq_true rfl)
         rw [e] at g6
         unfold bptr at g6
         have v2 := hF 2 (by decide) (hD 2 (by kernel_rfl))
         replace v2 : ys 2 = .agg #[.int .i64 s1, .int .i64 0] := v2
         have g2 := hG 2 22 rfl (Nat.le_of_ble_eq_true rfl)
         rw [v2] at g2
         have a0 := hA.cell 0
         have a1 := hA.cell 1
         simp at a0 a1
         have hf := hA.free
         go_wp2_with fail
         exact ⟨((Below.refl _ _).setCell (show M ≤ (⟨g, 0, none⟩ : Addr).block from hgN) _).setCell (show M ≤ (⟨g, 1, none⟩ : Addr).block from hgN) _, undef, trivial, hZ.put8 (hD 6 (by kernel_rfl)) e hgN hA⟩
      case hQ7 =>
       intro ys w2 hE hF hZ
       obtain ⟨done, hd, hZ⟩ := hZ
       have v5 : ys 5 = .agg #[.int .i64 s1, .int .i64 1] := hF 5 (by decide)
       obtain ⟨g, a6, b6, e6, hg1, hX, h8⟩ := hZ.one (hd 6 (by decide))
       obtain ⟨h, a7, b7, e7, hh1, hY⟩ := hZ.two (hd 7 (by decide))
       have hgh : g ≠ h := fun e => hZ.ne (hd _ (by decide)) (hd _ (by decide)) (by rw [e6, e7, e])
       obtain ⟨ea, eb⟩ := h8 (hd 8 (by decide))
       rw [ea, eb] at hX
       clear ea eb
       replace hE : Below M w1 w2 := hE
       have hqi := hS.inside
       have hB := hb1.trans (hE.mono (by have := hb1.size; omega))
       have hS2 := hS.keep hE (show q < M by omega)
       clear h8 hZ hF hd hS hb1 hbw e1 e2
       simp only [List.take_succ_cons, List.take_zero, List.drop_succ_cons, List.drop_zero, Sched.fill, v5, e6, e7]
       clear v5 e6 e7
       have hqM : q < M := by omega
       have hwM : w.heap.size ≤ M := by omega
       have y0 := hY.cell 0
       have y1 := hY.cell 1
       simp at y0 y1
       have hf2 := hY.free
       have hX3 := (hX.far hgh 0 (.int .i64 s1)).far hgh 1 (.int .i64 1)
       have hY3 := (hY.put 0 (.int .i64 s1)).put 1 (.int .i64 1)
       have hS3 := (hS2.far (show q ≠ h by omega) 0 (.int .i64 s1)).far (show q ≠ h by omega) 1 (.int .i64 1)
       have hB3 := (hB.setCell (show w.heap.size ≤ (⟨h, 0, none⟩ : Addr).block by show w.heap.size ≤ h; omega) (.int .i64 s1)).setCell (show w.heap.size ≤ (⟨h, 1, none⟩ : Addr).block by show w.heap.size ≤ h; omega) (.int .i64 1)
       simp at hX3 hY3
       simp only [bptr]
       go_upto_region 8 with fail
       generalize ((w2.setCell ⟨h, 0, none⟩ (.int .i64 s1)).setCell ⟨h, 1, none⟩ (.int .i64 1)) = w3 at *
       clear y0 y1 hf2 hX hY hS2 hB
       have a0 := hX3.cell 0
       have a1 := hX3.cell 1
       have b0 := hY3.cell 0
       have b1 := hY3.cell 1
       have d0 := hS3.cell 0
       have d1 := hS3.cell 1
       simp at a0 a1 b0 b1 d0 d1
       have hsz3 := hB3.size
       have hgi := hX3.inside
       have hhi := hY3.inside
       have hqi3 := hS3.inside
       cases c1 : decide (s1 < 0)
       case true =>
        have hF := Lib.hid (hbad.out (hnx.out.2 (ok_no (fun hh => by simp at c1; have := hh.1; simp at this; omega))))
        go_wp2
        go_ret
        exact ⟨ret_int hF.out.symm, hB3⟩
       case false =>
       cases c2 : decide (s2 < 0)
       case true =>
        have hF := Lib.hid (hbad.out (hnx.out.2 (ok_no (fun hh => by simp at c2; have := hh.2.1; simp at this; omega))))
        go_wp2
        go_ret
        exact ⟨ret_int hF.out.symm, hB3⟩
       case false =>
       cases c3 : decide (2 ≤ s2)
       case true =>
        have hF := Lib.hid (hbad.out (hnx.out.2 (ok_no (fun hh => by simp at c3; have := hh.2.1; simp at this; omega))))
        go_wp2
        go_ret
        exact ⟨ret_int hF.out.symm, hB3⟩
       case false =>
       obtain ⟨C0, hC0⟩ : ∃ C0, cnt (s1, 0) l = C0 := ⟨_, rfl⟩
       obtain ⟨C1, hC1⟩ : ∃ C1, cnt (s1, 1) l = C1 := ⟨_, rfl⟩
       have hC0' := Lib.hid hC0
       have hC1' := Lib.hid hC1
       clear hC0 hC1
       go_wp2_with fail
       refine (count_any _ l s1 0 (by rw [hN'.out]; omega) w3 ((h'.out.keep hB3 (Nat.le_refl _)).more hsz3)).mono ?_
       rintro e w4 ⟨rfl, hb4⟩
       rw [hC0'.out]
       have hB4 := hB3.trans (hb4.mono hsz3)
       have hX4 := hX3.keep hb4 hgi
       have hY4 := hY3.keep hb4 hhi
       have hS4 := hS3.keep hb4 hqi3
       have hsz4 := hB4.size
       clear hb4 a0 a1 b0 b1 d0 d1 hX3 hY3 hS3 hB3
       have a0 := hX4.cell 0
       have a1 := hX4.cell 1
       have b0 := hY4.cell 0
       have b1 := hY4.cell 1
       have d0 := hS4.cell 0
       have d1 := hS4.cell 1
       simp at a0 a1 b0 b1 d0 d1
       cases c4 : (C0 == 1)
       case false =>
        have hF := Lib.hid (hbad.out (hnx.out.2 (ok_no (fun hh => by have := hh.2.2.1; simp only [hC0'.out] at this; simp at c4; exact c4 this))))
        have c4' : ((C0 : Int) == 1) = false := by simp at c4 ⊢; omega
        have c4'' : ((C0 : Int) != 1) = true := by simp at c4 ⊢; omega
        go_wp2
        go_ret
        exact ⟨ret_int hF.out.symm, hB4⟩
       case true =>
       have c4' : ((C0 : Int) == 1) = true := by simp at c4 ⊢; omega
       have c4'' : ((C0 : Int) != 1) = false := by simp at c4 ⊢; omega
       go_wp2_with fail
       refine (count_any _ l s1 1 (by rw [hN'.out]; omega) w4 ((h'.out.keep hB4 (Nat.le_refl _)).more hsz4)).mono ?_
       rintro e w5 ⟨rfl, hb5⟩
       rw [hC1'.out]
       have hB5 := hB4.trans (hb5.mono hsz4)
       have hX5 := hX4.keep hb5 hX4.inside
       have hS5 := hS4.keep hb5 hS4.inside
       have hsz5 := hB5.size
       clear hb5 a0 a1 b0 b1 d0 d1 hX4 hY4 hS4 hB4
       have a0 := hX5.cell 0
       have a1 := hX5.cell 1
       have d0 := hS5.cell 0
       have d1 := hS5.cell 1
       simp at a0 a1 d0 d1
       cases c5 : (C1 == 1)
       case false =>
        have hF := Lib.hid (hbad.out (hnx.out.2 (ok_no (fun hh => by have := hh.2.2.2.1; simp only [hC1'.out] at this; simp at c5; exact c5 this))))
        have c5' : ((C1 : Int) == 1) = false := by simp at c5 ⊢; omega
        have c5'' : ((C1 : Int) != 1) = true := by simp at c5 ⊢; omega
        go_wp2
        go_ret
        exact ⟨ret_int hF.out.symm, hB5⟩
       case true =>
       have c5' : ((C1 : Int) == 1) = true := by simp at c5 ⊢; omega
       have c5'' : ((C1 : Int) != 1) = false := by simp at c5 ⊢; omega
       obtain ⟨C2, hC2⟩ : ∃ C2, cnt (s1, 0) (l.take k) = C2 := ⟨_, rfl⟩
       have hC2' := Lib.hid hC2
       have hok : Hid (0 ≤ s1 ∧ (s2 = 0 ∨ s2 = 1) ∧ C0 = 1 ∧ C1 = 1) := Lib.hid ⟨by simp at c1; omega, by simp at c2 c3; omega, by simpa using c4, by simpa using c5⟩
       clear hC2
       have hR5 : ∀ d os, Row (grow (redrawn w5 d) os).heap.size (grow (redrawn w5 d) os) (.slice (some ⟨gg, o, none⟩) k cap) (l.take k) := fun d os =>
        (((h'.out.cutTo hN'.out (Nat.le_of_lt hlt)).keep (hB5.trans ((below_regrown w5 d os).mono hsz5)) (Nat.le_refl _)).more (Nat.le_trans hsz5 (below_regrown w5 d os).size))
       have cN := fun d os => Calls.regrown_of (count_any _ (l.take k) s1 0 (by simp; omega) (grow (redrawn w5 d) os) (hR5 d os))
       rw [hC2'.out] at cN
       have ka0 := cell_regrown a0
       have ka1 := cell_regrown a1
       have kd1 := cell_regrown d1
       have hkc : k ≤ cap := by omega
       rcases hok.out.2.1 with e | e
       · subst e
         have hnext := Lib.hid (hnx.out.1 (okAt_iff.2 ⟨hok.out.1, .inl rfl, by simp only [hC0'.out]; exact hok.out.2.2.1, by simp only [hC1'.out]; exact hok.out.2.2.2, fun h => by simp at h⟩))
         clear hok c1 c2 c3
         go_upto_region 10 with fail
         refine wp_region_quiet_below (by kernel_rfl) (by kernel_rfl) ?_
         repeat (go_big_quiet_step (with_reducible exact cN _ _))
         refine wpQuiet_nil ?_
         intro _ hw'
         obtain ⟨⟨dq, osq⟩, hw''⟩ := hw'
         subst hw''
         have hE := hB5.trans ((below_regrown w5 dq osq).mono hsz5)
         go_wp2
         go_roundw
         case rel => exact ⟨k + 1, by omega, by go_num, hnext, hE⟩
         case measure => simp [intOf]; omega
       · subst e
         cases c6 : (C2 == 1)
         · have hF := Lib.hid (hbad.out (hnx.out.2 (ok_no (fun hh => by have := hh.2.2.2.2 rfl; simp only [hC2'.out] at this; simp at c6; exact c6 this))))
           have c6' : ((C2 : Int) == 1) = false := by simp at c6 ⊢; omega
           have c6'' : ((C2 : Int) != 1) = true := by simp at c6 ⊢; omega
           clear hok c1 c2 c3
           go_upto_region 10 with fail
           refine wp_region_quiet_below (by kernel_rfl) (by kernel_rfl) ?_
           repeat (go_big_quiet_step (with_reducible exact cN _ _))
           refine wpQuiet_nil ?_
           intro _ hw'
           obtain ⟨⟨dq, osq⟩, hw''⟩ := hw'
           subst hw''
           have hE := hB5.trans ((below_regrown w5 dq osq).mono hsz5)
           go_wp2
           go_ret
           exact ⟨ret_int hF.out.symm, hE⟩
         · have hnext := Lib.hid (hnx.out.1 (okAt_iff.2 ⟨hok.out.1, .inr rfl, by simp only [hC0'.out]; exact hok.out.2.2.1, by simp only [hC1'.out]; exact hok.out.2.2.2, fun h => by simp only [hC2'.out]; simpa using c6⟩))
           have c6' : ((C2 : Int) == 1) = true := by simp at c6 ⊢; omega
           have c6'' : ((C2 : Int) != 1) = false := by simp at c6 ⊢; omega
           clear hok c1 c2 c3
           go_upto_region 10 with fail
           refine wp_region_quiet_below (by kernel_rfl) (by kernel_rfl) ?_
           repeat (go_big_quiet_step (with_reducible exact cN _ _))
           refine wpQuiet_nil ?_
           intro _ hw'
           obtain ⟨⟨dq, osq⟩, hw''⟩ := hw'
           subst hw''
           have hE := hB5.trans ((below_regrown w5 dq osq).mono hsz5)
           go_wp2
           go_roundw
           case rel => exact ⟨k + 1, by omega, by go_num, hnext, hE⟩
           case measure => simp [intOf]; omega
    · obtain rfl : k = N := by omega
      have hR : isR l = true := by
       rw [← hok.out, List.drop_eq_nil_of_le (by rw [hN'.out]; omega)]
       rfl
      have hF := Lib.hid (hgood.out hR)
      clear hR hok
      go_wp2
      go_ret
      exact ⟨ret_int hF.out.symm, hbw⟩
end Go.Proofs.YteclpblfleakhaaGreatDoor.Route
namespace Go.Proofs.YteclpblfleakhaaGreatDoor.Route
open Go.RowKit Go.Proofs.YteclpblfleakhaaGreatDoor.Mem
set_option linter.unusedVariables false
theorem pick_yes {l : List (Int × Int)} {k : Nat} {s : Int × Int} (h : l[k]? = some s) (e : s.2 = 0) : picksL (l.take (k + 1)) = picksL (l.take k) ++ [s.1] := by rw [take_get h]; simp [picksL, e]
theorem pick_no {l : List (Int × Int)} {k : Nat} {s : Int × Int} (h : l[k]? = some s) (e : s.2 ≠ 0) : picksL (l.take (k + 1)) = picksL (l.take k) := by rw [take_get h]; simp [picksL, e]
theorem picks_le (l : List (Int × Int)) : (picksL l).length ≤ l.length := by
 unfold picksL
 rw [List.length_map]
 exact List.length_filter_le ..
theorem picks_take (l : List (Int × Int)) (k : Nat) : (picksL (l.take k)).length ≤ k := by
 have := picks_le (l.take k)
 rw [List.length_take] at this
 omega
theorem reqs_good {l : List (Int × Int)} (h : checkV l = 0) : reqsL l = picksL l := by
 unfold checkV at h
 unfold reqsL
 split at h
 · omega
 · split at h
   · rename_i h1 h2
     rw [h2, show decide (l.length ≤ 16) = true by simp; omega]
     rfl
   · omega
theorem reqs_bad {l : List (Int × Int)} (h : checkV l ≠ 0) : reqsL l = [] := by
 unfold checkV at h
 unfold reqsL
 split at h
 · rw [show decide (l.length ≤ 16) = false by simp; omega]
   rfl
 · split at h
   · omega
   · rename_i h1 h2
     rw [show isR l = false by simpa using h2, Bool.and_false]
     rfl
end Go.Proofs.YteclpblfleakhaaGreatDoor.Route

/-
  The program's Parse and Count.
-/
import Derived.Test.YtkfienjlmnbonaaFrSplit
namespace Go.Proofs.Ytkfienjlmnbonaa.Fr
open Go.RowKit Go.Sort Go.Shelf Go.Proofs.Ytkfienjlmnbonaa.Mem Go.Proofs.Ytkfienjlmnbonaa.Route Go.Proofs.Ytkfienjlmnbonaa.Oct Go.Proofs.Ytkfienjlmnbonaa.Seq
set_option linter.unusedVariables false

attribute [local go_sem] Oper.semAt_some

theorem Parse_any (s : Bs) (hs : s.length ≤ 9223372036854775807) (w : World) :
    Calls Try.prog 12 #[.string (str s)] w fun e w' => e = .returned (.tuple #[.int .i64 (paK s), .string (str (paB s)), .int .i64 (paE s)]) ∧ Below w.heap.size w w' := by
  have h := Split_any s hs w
  cases hf : front s with
  | none =>
    simp only [spK, spB, spR, spE, hf] at h
    simp only [paK, paB, paE, hf]
    clear hf
    go_enter Try.func12, Try.ntmps12
    go_wp2_with fail
    refine h.mono ?_
    rintro e w1 ⟨rfl, hb⟩
    go_wp2
    go_ret3
    exact ⟨rfl, hb⟩
  | some f =>
    obtain ⟨k, b, r⟩ := f
    simp only [spK, spB, spR, spE, hf] at h
    simp only [paK, paB, paE, hf]
    clear hf
    by_cases hr : r = []
    · subst hr
      simp only [if_true]
      go_enter Try.func12, Try.ntmps12
      go_wp2_with fail
      refine h.mono ?_
      clear h
      rintro e w1 ⟨rfl, hb⟩
      go_wp2
      go_ret3
      exact ⟨rfl, hb⟩
    · simp only [if_neg hr]
      have hn := str_full hr
      generalize str r = R at *
      go_enter Try.func12, Try.ntmps12
      go_wp2_with fail
      refine h.mono ?_
      clear h
      rintro e w1 ⟨rfl, hb⟩
      go_wp2
      go_ret3
      exact ⟨rfl, hb⟩

def lastR (s : Bs) (pre : List Fd) : Bs := match pre.getLast? with | some f => f.rest | none => s
/-- What Count's own memory holds when the frames of pre have come. -/
structure CnI (w : World) (s : Bs) (pre : List Fd) (W : World) : Prop where
  n : At W w.heap.size 3 #[.int .i64 (pre.length : Int)]
  rest : At W (w.heap.size + 1) 9 #[.string (str (lastR s pre))]
  text : At W (w.heap.size + 2) 9 #[.string (str s)]
  below : Below w.heap.size w W
theorem CnI.old {w : World} {s : Bs} {n : Nat} (hn : w.heap.size + 3 ≤ n) : Seq.Old n (CnI w s) := by
  rintro pre A A' row ⟨h1, h2, h3, h4⟩ hg hr
  exact ⟨oldAt h1 hg hr (by omega), oldAt h2 hg hr (by omega), oldAt h3 hg hr (by omega), h4.grown hg h4.size (fun k e => by have := hr k e; omega)⟩
theorem Run.last {s r : Bs} {l : List Fd} (h : Run s l r) : lastR s l = r := by
  induction h with
  | stop _ => rfl
  | @go s r f l h1 h2 ih =>
    cases l with
    | nil => cases h2; rfl
    | cons g l =>
      unfold lastR at ih ⊢
      rw [List.getLast?_cons_cons]
      cases hL : (g :: l).getLast? with
      | none => simp at hL
      | some y =>
        rw [hL] at ih
        exact ih
theorem last_snoc (s : Bs) (pre : List Fd) (x : Fd) : lastR s (pre ++ [x]) = x.rest := by simp [lastR]
/-- All blocks but one are as they were. -/
structure Res1 (n : Nat) (W W' : World) : Prop where
  os : W'.os = W.os
  tape : W'.tape = W.tape
  output : W'.output = W.output
  size : W.heap.size ≤ W'.heap.size
  block : ∀ k, k < W.heap.size → k ≠ n → W'.heap[k]? = W.heap[k]?
theorem Res1.refl (n : Nat) (W : World) : Res1 n W W := ⟨rfl, rfl, rfl, Nat.le_refl _, fun _ _ _ => rfl⟩
theorem Res1.trans {n : Nat} {A B C : World} (h : Res1 n A B) (k : Res1 n B C) : Res1 n A C :=
  ⟨k.os.trans h.os, k.tape.trans h.tape, k.output.trans h.output, Nat.le_trans h.size k.size, fun j hj h0 => (k.block j (Nat.lt_of_lt_of_le hj h.size) h0).trans (h.block j hj h0)⟩
theorem Res1.set (n : Nat) (W : World) (v : Value) : Res1 n W (W.setCell ⟨n, 0, none⟩ v) := ⟨rfl, rfl, rfl, by simp, fun k _ h0 => Below.heap_setCell W _ v k h0⟩
theorem Res1.at {n g : Nat} {W W' : World} {t : TypeId} {cs : Array Value} (h : Res1 n W W') (hA : At W g t cs) (h0 : g ≠ n) : At W' g t cs := (h.block g hA.inside h0).trans hA
/-- A counter, read at 'a' and written at 's'. -/
def Z1 (a s n : Nat) (d e : Value) (done : Nat → Bool) (ys : Nat → Value) (w : World) : Prop :=
  ∃ v, At w n 3 #[v] ∧ (done s = true → done a = true ∧ v = e) ∧ (done s = false → v = d)
theorem Z1.light {a s n k : Nat} {d e : Value} {done : Nat → Bool} {ys : Nat → Value} {w : World} {v : Value} (h : Z1 a s n d e done ys w) (hs : k ≠ s) : Z1 a s n d e (Sched.mark done k) (Sched.upd ys k v) w := by
  obtain ⟨u, h1, h2, h3⟩ := h
  refine ⟨u, h1, fun hd => ?_, fun hd => h3 (by simpa [Sched.mark, Ne.symm hs] using hd)⟩
  obtain ⟨h4, h5⟩ := h2 (by simpa [Sched.mark, Ne.symm hs] using hd)
  exact ⟨by simp [Sched.mark, h4], h5⟩
theorem Z1.read {a s n : Nat} {d e : Value} {done : Nat → Bool} {ys : Nat → Value} {w : World} (h : Z1 a s n d e done ys w) (hn : done a = false) : At w n 3 #[d] := by
  obtain ⟨u, h1, h2, h3⟩ := h
  cases hd : done s
  · rw [← h3 hd]
    exact h1
  · rw [(h2 hd).1] at hn
    cases hn
theorem Z1.put {a s n : Nat} {d e : Value} {done : Nat → Bool} {ys : Nat → Value} {w : World} {v : Value} (h : Z1 a s n d e done ys w) (ha : done a = true) : Z1 a s n d e (Sched.mark done s) (Sched.upd ys s v) (w.setCell ⟨n, 0, none⟩ e) := by
  obtain ⟨u, h1, h2, h3⟩ := h
  refine ⟨e, h1.put 0 e, fun _ => ⟨?_, rfl⟩, fun hd => ?_⟩
  · simp [Sched.mark, ha]
  · simp [Sched.mark] at hd

set_option maxRecDepth 100000 in
set_option maxHeartbeats 4000000 in
theorem Count_any (s r : Bs) (l : List Fd) (hr : Run s l r) (hs : s.length ≤ 9223372036854775807) (w : World) :
    Calls Try.prog 16 #[.string (str s)] w fun e w' => e = .returned (.tuple #[.int .i64 (cnN l r), .int .i64 (cnE r)]) ∧ Below w.heap.size w w' := by
  have hlen := hr.length
  refine (callsIn_wide (n := 3)).1 ?_
  refine callsIn_of_wp_marks Try.func16 rfl trivial ?_ rfl
  simp only [Try.ntmps16, List.size_toArray, List.length_cons, List.length_nil, Nat.reduceAdd, Nat.reduceSub, Array.replicate_succ, Array.replicate_zero, List.push_toArray, List.append_toArray, List.nil_append, List.cons_append]
  replace hr := Lib.hid hr
  replace hs := Lib.hid hs
  replace hlen := Lib.hid hlen
  gi_wp2_with fail
  refine ⟨trivial, ?_⟩
  refine (callsIn_wide.2 (frames_any s _)).mono ?_
  rintro e w1 ⟨rfl, rfl⟩
  have hs4 : ((w.alloc (.cells #[.int .i64 0] 3)).alloc (.cells #[.string (str s)] 9)).heap.size = w.heap.size + 2 := by simp
  have hI0 : CnI w s [] (((w.alloc (.cells #[.int .i64 0] 3)).alloc (.cells #[.string (str s)] 9)).alloc (.cells #[.string (str s)] 9)) :=
    ⟨((At.new w _ _).alloc _).alloc _, (At.new_ _ _ _ (by simp)).alloc _, At.new_ _ _ _ (by simp), (((Below.refl _ _).alloc (Nat.le_refl _) _).alloc (by simp) _).alloc (by simp; omega) _⟩
  have hs5 : (((w.alloc (.cells #[.int .i64 0] 3)).alloc (.cells #[.string (str s)] 9)).alloc (.cells #[.string (str s)] 9)).heap.size = w.heap.size + 3 := by simp
  rw [hs4]
  generalize (((w.alloc (.cells #[.int .i64 0] 3)).alloc (.cells #[.string (str s)] 9)).alloc (.cells #[.string (str s)] 9)) = w1 at *
  clear hs4
  have hI0' := Lib.hid hI0
  clear hI0
  gi_wp2_with fail
  refine ranges (gf := 19) (lb := #[.pointer (some ⟨w.heap.size + 2, 0, none⟩)]) rfl (enters_of Try.func19 (by kernel_rfl) rfl) (encs := encF) (xs := l) (fun _ => rfl)
    (CnI w s) (CnI.old (by omega)) hI0'.out (frames_gives s r l hr.out hs.out (w.heap.size + 2) _ _ (fun p A hA => hA.text))
    (fun x a' W => ∃ Bx, w1.heap.size + 2 ≤ Bx ∧ AtL W Bx 49 [.int .i64 (x.k : Int), .string (str x.body), .string (str x.rest)] ∧ a' = { tmps := #[Value.string (str s), undef, Value.int IntKind.i64 0, Value.int IntKind.i64 0,
            Value.pointer (some { block := w.heap.size, off := 0 }),
            Value.pointer (some { block := w.heap.size + 1, off := 0 }), Value.pointer (some { block := Bx, off := 0 }), Value.string (str s),
            Value.string (str s), Value.func (Fn.func 19) #[] #[Value.pointer (some { block := w.heap.size + 2, off := 0 })],
            Value.agg #[Value.int IntKind.i64 (x.k : Int), Value.string (str x.body), Value.string (str x.rest)], undef, undef, undef, undef, undef, undef, undef], defers := [] })
    ?hAx ?assign ?body ?done
  case hAx =>
    rintro x a' W o ⟨Bx, h1, h2, h3⟩
    exact ⟨Bx, h1, (World.putObj_heap_other (by omega)).trans h2, h3⟩
  case assign =>
    rintro lp pre x W K hW hK
    simp only [encF]
    gi_wp2
    exact hK _ _ (World.grownBy_alloc _ _ _) ⟨W.heap.size, hW, AtL.new _ _ _, rfl⟩
  case body =>
    rintro lp pre x a' Vr hW hI2 ⟨Bx, hBx, hx, rfl⟩ hlt
    obtain ⟨a1, a2, a3, a4⟩ := hI2
    have hx0 : Bx ≠ w.heap.size := by omega
    have hv4 : w.heap.size + 2 < Vr.heap.size := a3.inside
    obtain ⟨d, hd⟩ : ∃ d, pre.length = d := ⟨_, rfl⟩
    rw [hd] at a1 hlt
    have hd1 : (d : Int) + 1 ≤ 9223372036854775807 := by have := hlen.out; have := hs.out; omega
    have hZ0 : ∀ ys, Z1 0 4 w.heap.size (.int .i64 (d : Int)) (.int .i64 ((d : Int) + 1)) (fun _ => false) ys Vr := fun ys => ⟨_, a1, fun h => (by cases h), fun _ => rfl⟩
    replace a2 := Lib.hid a2
    replace a3 := Lib.hid a3
    replace a4 := Lib.hid a4
    replace hd := Lib.hid hd
    clear hI0' a1 hlt
    gi_upto_region 4 with fail
    refine Sched.wpIn_region_sched 5 (fun W W' => Res1 w.heap.size W W') (Vv [some (.int .i64 (d : Int)), some (.int .i64 ((d : Int) + 1)), some (.pointer (some ⟨Bx, 2, none⟩)), some (.string (str x.rest)), none]) (Z1 0 4 w.heap.size (.int .i64 (d : Int)) (.int .i64 ((d : Int) + 1))) (by kernel_rfl) (by kernel_rfl) (by kernel_rfl) (by kernel_rfl) ?hO (fun h1 h2 => h1.trans h2) (fun h _ => h) ⟨rfl, rfl, rfl, Nat.le_refl _, fun _ _ _ => rfl⟩ (fun ys => hZ0 ys) (Sched.StepsA.steps (by kernel_rfl) ?hS) ?hQ
    case hO => exact fun hh => by obtain ⟨_, _, h⟩ := hh; exact h
    case hS =>
     simp only [List.take_succ_cons, List.take_zero]
     refine ⟨?_, ?_, ?_, ?_, ?_, trivial⟩
     · intro ys done W aa hE hn hF hD hZ hG hO
       replace hE : Res1 w.heap.size Vr W := hE
       have o4 := hO 4 (by kernel_rfl)
       replace o4 : aa.tmps[4]? = some (.pointer (some ⟨w.heap.size, 0, none⟩)) := o4
       have cc := (Z1.read hZ hn).cell 0
       simp at cc
       go_wp2_with fail
       exact ⟨_, rfl, Res1.refl _ _, Vv.val rfl rfl, Z1.light hZ (by decide)⟩
     · intro ys done W aa hE hn hF hD hZ hG hO
       replace hE : Res1 w.heap.size Vr W := hE
       have v0 := (hF 0 (by decide) (hD 0 (by kernel_rfl))).eq rfl
       have g0 := hG 0 11 rfl (Nat.le_of_ble_eq_true rfl)
       rw [v0] at g0
       go_wp2_with fail
       exact ⟨_, rfl, Res1.refl _ _, Vv.val rfl rfl, Z1.light hZ (by decide)⟩
     · intro ys done W aa hE hn hF hD hZ hG hO
       replace hE : Res1 w.heap.size Vr W := hE
       have o6 := hO 6 (by kernel_rfl)
       replace o6 : aa.tmps[6]? = some (.pointer (some ⟨Bx, 0, none⟩)) := o6
       go_wp2_with fail
       exact ⟨_, rfl, Res1.refl _ _, Vv.val rfl rfl, Z1.light hZ (by decide)⟩
     · intro ys done W aa hE hn hF hD hZ hG hO
       replace hE : Res1 w.heap.size Vr W := hE
       have v2 := (hF 2 (by decide) (hD 2 (by kernel_rfl))).eq rfl
       have g2 := hG 2 13 rfl (Nat.le_of_ble_eq_true rfl)
       rw [v2] at g2
       have hAt := hE.at hx hx0
       have p := cell2 hAt
       go_wp2_with fail
       exact ⟨_, rfl, Res1.refl _ _, Vv.val rfl rfl, Z1.light hZ (by decide)⟩
     · intro ys done W aa hE hn hF hD hZ hG hO
       replace hE : Res1 w.heap.size Vr W := hE
       have o4 := hO 4 (by kernel_rfl)
       replace o4 : aa.tmps[4]? = some (.pointer (some ⟨w.heap.size, 0, none⟩)) := o4
       have v1 := (hF 1 (by decide) (hD 1 (by kernel_rfl))).eq rfl
       have g1 := hG 1 12 rfl (Nat.le_of_ble_eq_true rfl)
       rw [v1] at g1
       have hd0 := hD 0 (by kernel_rfl)
       have hZ' := Lib.hid hZ
       obtain ⟨u, hu, _⟩ := hZ
       have cc : W.cell? ⟨w.heap.size, 0, none⟩ = some u := by have := hu.cell 0; simpa using this
       have ff : W.frozen? ⟨w.heap.size, 0, none⟩ = false := hu.free 0
       clear hu hF hD hG hO
       go_wp2_with fail
       exact ⟨undef, rfl, Res1.set _ _ _, Vv.any rfl, hZ'.out.put hd0⟩
    case hQ =>
      intro ys w4 hE hV hZ
      obtain ⟨done, hdn, v0, b0, e0, _⟩ := hZ
      obtain rfl := (e0 (hdn 4 (by decide))).2
      replace hE : Res1 w.heap.size Vr w4 := hE
      have hv3 := (hV 3 (by decide)).eq rfl
      have b2 := hE.at a2.out (by omega)
      have b3 := hE.at a3.out (by omega)
      have b4 : Below w.heap.size w w4 := ⟨hE.os.trans a4.out.os, hE.tape.trans a4.out.tape, hE.output.trans a4.out.output, Nat.le_trans a4.out.size hE.size, fun k hk => (hE.block k (by omega) (by omega)).trans (a4.out.block k hk)⟩
      have c1 : w4.cell? ⟨w.heap.size + 1, 0, none⟩ = some (.string (str (lastR s pre))) := by have := b2.cell 0; simpa using this
      have f1 := b2.free 0
      have hfin : CnI w s (pre ++ [x]) (w4.setCell ⟨w.heap.size + 1, 0, none⟩ (.string (str x.rest))) := ⟨by have := b0.far (b := w.heap.size + 1) (by omega) 0 (.string (str x.rest)); rw [List.length_append, hd.out]; simpa using this, by rw [last_snoc]; exact b2.put 0 _, b3.far (by omega) _ _, below_set b4 (by omega) _ _⟩
      have hk : Kept w1.heap.size Vr (w4.setCell ⟨w.heap.size + 1, 0, none⟩ (.string (str x.rest))) :=
        Kept.trans ⟨hE.size, fun k hk1 hk2 => hE.block k hk2 (by omega)⟩ (Kept.setCell _ (by omega) _)
      replace hfin := Lib.hid hfin
      replace hk := Lib.hid hk
      clear b0 b2 b3 b4 hE hV e0 hdn hZ0 a2 a3 a4 hx
      simp only [List.take_succ_cons, List.take_zero, List.drop_succ_cons, List.drop_zero, Sched.fill, Act.put, hv3]
      go_simp
      go_wp2_with fail
      exact ⟨hfin.out, by first | exact hk.out | (rw [← hs5]; exact hk.out)⟩
  case done =>
    rintro Wr hW hI2 hD
    have hlast := hr.out.last
    obtain ⟨a1, a2, a3, a4⟩ := hI2
    rw [hlast] at a2
    have c0 : Wr.cell? ⟨w.heap.size, 0, none⟩ = some (.int .i64 (l.length : Int)) := by have := a1.cell 0; simpa using this
    have c1 : Wr.cell? ⟨w.heap.size + 1, 0, none⟩ = some (.string (str r)) := by have := a2.cell 0; simpa using this
    have hfb := a4.trans (belowK_b (w := w) (Nat.le_refl _) _ w1.heap.size _ (.deferred none) (by omega) hD rfl rfl)
    have hfin := Lib.hid (And.intro hD hfb)
    clear hD hfb a1 a2 a3 a4 hlast
    by_cases hre : r = []
    · subst hre
      have hc := Lib.hid (show cnN l [] = (l.length : Int) ∧ cnE [] = 0 from ⟨if_pos rfl, if_pos rfl⟩)
      gi_wp2
      refine ⟨by simp, .inl ⟨_, _, rfl, run_takeDeferred hfin.out.1, ?_⟩⟩
      rw [hc.out.1, hc.out.2]
      exact ⟨_, results_tmp2 rfl _ _ _, rfl, hfin.out.2⟩
    · have hn := str_full hre
      have hc := Lib.hid (show cnN l r = 0 ∧ cnE r = 14 from ⟨if_neg hre, if_neg hre⟩)
      generalize str r = R at *
      gi_wp2
      refine ⟨by simp, .inl ⟨_, _, rfl, run_takeDeferred hfin.out.1, ?_⟩⟩
      rw [hc.out.1, hc.out.2]
      exact ⟨_, results_tmp2 rfl _ _ _, rfl, hfin.out.2⟩

end Go.Proofs.Ytkfienjlmnbonaa.Fr

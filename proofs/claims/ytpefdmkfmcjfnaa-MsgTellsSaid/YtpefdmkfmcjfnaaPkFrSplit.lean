import Derived.Test.YtpefdmkfmcjfnaaPkUp
import Derived.Sort.CutIn

namespace Go.Proofs.Ytpefdmkfmcjfnaa.Fr
open Go.RowKit Go.Sort Go.Shelf Go.Proofs.Ytpefdmkfmcjfnaa.Mem Go.Proofs.Ytpefdmkfmcjfnaa.Route Go.Proofs.Ytpefdmkfmcjfnaa.Oct Go.Proofs.Ytpefdmkfmcjfnaa.Up
set_option linter.unusedVariables false
attribute [local go_sem] Oper.semAt_some
def hdK : List Fd → Int
 | f :: _ => (f.k : Int)
 | [] => 0
def hdB : List Fd → Bs
 | f :: _ => f.body
 | [] => []
def hdR : List Fd → Bs
 | f :: _ => f.rest
 | [] => []
structure SpI (w : World) (s : Bs) (pre : List Fd) (W : World) : Prop where
 k : At W w.heap.size 3 #[.int .i64 (hdK pre)]
 body : At W (w.heap.size + 1) 9 #[.string (str (hdB pre))]
 rest : At W (w.heap.size + 2) 9 #[.string (str (hdR pre))]
 e : At W (w.heap.size + 3) 53 #[.int .i64 0]
 text : At W (w.heap.size + 4) 9 #[.string (str s)]
 below : Below w.heap.size w W
theorem oldAt {A A' : World} {g n : Nat} {t : TypeId} {cs : Array Value} {row : Option Nat} (h : At A g t cs) (hg : A.grownBy A' row) (hr : ∀ r, row = some r → n ≤ r) (hn : g < n) : At A' g t cs :=
 (hg.block g h.inside (fun e => by have := hr g e.symm; omega)).trans h
theorem SpI.old {w : World} {s : Bs} {n : Nat} (hn : w.heap.size + 5 ≤ n) : Up.Old n (SpI w s) := by
 rintro pre A A' row ⟨h1, h2, h3, h4, h5, h6⟩ hg hr
 have hr' : ∀ r, row = some r → n ≤ r := fun r e => (hr r e).1
 exact ⟨oldAt h1 hg hr' (by omega), oldAt h2 hg hr' (by omega), oldAt h3 hg hr' (by omega), oldAt h4 hg hr' (by omega), oldAt h5 hg hr' (by omega), h6.grown hg h6.size (fun k e => by have := hr' k e; omega)⟩
theorem res_sp {fn : Func} {p q r e : Tmp} (h : fn.results = #[.cell p 3, .cell q 9, .cell r 9, .cell e 53]) {tmps : Array Value} {W : World} {n0 n1 n2 n3 : Nat} {k x : Int} {b t : Bs}
 (h0 : tmps.getD p undef = .pointer (some ⟨n0, 0, none⟩)) (h1 : tmps.getD q undef = .pointer (some ⟨n1, 0, none⟩)) (h2 : tmps.getD r undef = .pointer (some ⟨n2, 0, none⟩)) (h3 : tmps.getD e undef = .pointer (some ⟨n3, 0, none⟩))
 (a0 : At W n0 3 #[.int .i64 k]) (a1 : At W n1 9 #[.string (str b)]) (a2 : At W n2 9 #[.string (str t)]) (a3 : At W n3 53 #[.int .i64 x]) :
 (results fn tmps).run Try.prog W = .ok (.tuple #[.int .i64 k, .string (str b), .string (str t), .int .i64 x]) W := by
 have h0' : tmps[p]?.getD undef = .pointer (some ⟨n0, 0, none⟩) := by simpa using h0
 have h1' : tmps[q]?.getD undef = .pointer (some ⟨n1, 0, none⟩) := by simpa using h1
 have h2' : tmps[r]?.getD undef = .pointer (some ⟨n2, 0, none⟩) := by simpa using h2
 have h3' : tmps[e]?.getD undef = .pointer (some ⟨n3, 0, none⟩) := by simpa using h3
 have c0 := a0.cell 0
 have c1 := a1.cell 0
 have c2 := a2.cell 0
 have c3 := a3.cell 0
 simp at c0 c1 c2 c3
 simp only [results, h]
 go_simp
structure Res (n : Nat) (W W' : World) : Prop where
 os : W'.os = W.os
 tape : W'.tape = W.tape
 output : W'.output = W.output
 size : W.heap.size ≤ W'.heap.size
 block : ∀ k, k < W.heap.size → k ≠ n → k ≠ n + 1 → k ≠ n + 2 → W'.heap[k]? = W.heap[k]?
theorem Res.refl (n : Nat) (W : World) : Res n W W := ⟨rfl, rfl, rfl, Nat.le_refl _, fun _ _ _ _ _ => rfl⟩
theorem Res.trans {n : Nat} {A B C : World} (h : Res n A B) (k : Res n B C) : Res n A C :=
 ⟨k.os.trans h.os, k.tape.trans h.tape, k.output.trans h.output, Nat.le_trans h.size k.size, fun j hj h0 h1 h2 => (k.block j (Nat.lt_of_lt_of_le hj h.size) h0 h1 h2).trans (h.block j hj h0 h1 h2)⟩
theorem Res.set {n : Nat} (W : World) {g : Nat} (hg : g = n ∨ g = n + 1 ∨ g = n + 2) (v : Value) : Res n W (W.setCell ⟨g, 0, none⟩ v) :=
 ⟨rfl, rfl, rfl, by simp, fun k _ h0 h1 h2 => Below.heap_setCell W _ v k (by simp; omega)⟩
theorem Res.at {n g : Nat} {W W' : World} {t : TypeId} {cs : Array Value} (h : Res n W W') (hA : At W g t cs) (h0 : g ≠ n) (h1 : g ≠ n + 1) (h2 : g ≠ n + 2) : At W' g t cs := (h.block g hA.inside h0 h1 h2).trans hA
def Vv (ks : List (Option Value)) (i : Nat) (v : Value) (w : World) : Prop := ∀ u, ks[i]? = some (some u) → v = u
theorem Vv.val {ks : List (Option Value)} {i : Nat} {u v : Value} {w : World} (h : ks[i]? = some (some u)) (e : v = u) : Vv ks i v w := fun x hx => by rw [h] at hx; cases hx; exact e
theorem Vv.any {ks : List (Option Value)} {i : Nat} {v : Value} {w : World} (h : ks[i]? = some none) : Vv ks i v w := fun x hx => by rw [h] at hx; cases hx
theorem Vv.eq {ks : List (Option Value)} {i : Nat} {u v : Value} {w : World} (hV : Vv ks i v w) (h : ks[i]? = some (some u)) : v = u := hV u h
def ZS (n : Nat) (x : Fd) (done : Nat → Bool) (ys : Nat → Value) (w : World) : Prop :=
 (∃ v, At w n 3 #[v] ∧ (done 6 = true → v = .int .i64 (x.k : Int))) ∧ (∃ v, At w (n + 1) 9 #[v] ∧ (done 7 = true → v = .string (str x.body))) ∧ (∃ v, At w (n + 2) 9 #[v] ∧ (done 8 = true → v = .string (str x.rest)))
theorem ZS.light {n k : Nat} {x : Fd} {done : Nat → Bool} {ys : Nat → Value} {w : World} {v : Value} (h : ZS n x done ys w) (h6 : k ≠ 6) (h7 : k ≠ 7) (h8 : k ≠ 8) : ZS n x (Sched.mark done k) (Sched.upd ys k v) w := by
 obtain ⟨⟨v0, a0, b0⟩, ⟨v1, a1, b1⟩, ⟨v2, a2, b2⟩⟩ := h
 refine ⟨⟨v0, a0, fun hd => b0 ?_⟩, ⟨v1, a1, fun hd => b1 ?_⟩, ⟨v2, a2, fun hd => b2 ?_⟩⟩
 · simpa [Sched.mark, Ne.symm h6] using hd
 · simpa [Sched.mark, Ne.symm h7] using hd
 · simpa [Sched.mark, Ne.symm h8] using hd
theorem ZS.put6 {n : Nat} {x : Fd} {done : Nat → Bool} {ys : Nat → Value} {w : World} {v : Value} (h : ZS n x done ys w) : ZS n x (Sched.mark done 6) (Sched.upd ys 6 v) (w.setCell ⟨n, 0, none⟩ (.int .i64 (x.k : Int))) := by
 obtain ⟨⟨v0, a0, b0⟩, ⟨v1, a1, b1⟩, ⟨v2, a2, b2⟩⟩ := h
 exact ⟨⟨_, a0.put 0 _, fun _ => rfl⟩, ⟨v1, a1.far (by omega) _ _, fun hd => b1 (by simpa [Sched.mark] using hd)⟩, ⟨v2, a2.far (by omega) _ _, fun hd => b2 (by simpa [Sched.mark] using hd)⟩⟩
theorem ZS.put7 {n : Nat} {x : Fd} {done : Nat → Bool} {ys : Nat → Value} {w : World} {v : Value} (h : ZS n x done ys w) : ZS n x (Sched.mark done 7) (Sched.upd ys 7 v) (w.setCell ⟨n + 1, 0, none⟩ (.string (str x.body))) := by
 obtain ⟨⟨v0, a0, b0⟩, ⟨v1, a1, b1⟩, ⟨v2, a2, b2⟩⟩ := h
 exact ⟨⟨v0, a0.far (by omega) _ _, fun hd => b0 (by simpa [Sched.mark] using hd)⟩, ⟨_, a1.put 0 _, fun _ => rfl⟩, ⟨v2, a2.far (by omega) _ _, fun hd => b2 (by simpa [Sched.mark] using hd)⟩⟩
theorem ZS.put8 {n : Nat} {x : Fd} {done : Nat → Bool} {ys : Nat → Value} {w : World} {v : Value} (h : ZS n x done ys w) : ZS n x (Sched.mark done 8) (Sched.upd ys 8 v) (w.setCell ⟨n + 1 + 1, 0, none⟩ (.string (str x.rest))) := by
 obtain ⟨⟨v0, a0, b0⟩, ⟨v1, a1, b1⟩, ⟨v2, a2, b2⟩⟩ := h
 exact ⟨⟨v0, a0.far (by omega) _ _, fun hd => b0 (by simpa [Sched.mark] using hd)⟩, ⟨v1, a1.far (by omega) _ _, fun hd => b1 (by simpa [Sched.mark] using hd)⟩, ⟨_, a2.put 0 _, fun _ => rfl⟩⟩
theorem putAt {A : World} {d g : Nat} {o : Obj} {t : TypeId} {cs : Array Value} (h : At A g t cs) (hn : g ≠ d) : At (A.putObj d o) g t cs := (World.putObj_heap_other hn).trans h
set_option maxRecDepth 100000 in
set_option maxHeartbeats 4000000 in
theorem Split_any (s : Bs) (hs : s.length ≤ 9223372036854775807) (w : World) :
 Calls Try.prog 59 #[.string (str s)] w fun e w' => e = .returned (.tuple #[.int .i64 (spK s), .string (str (spB s)), .string (str (spR s)), .int .i64 (spE s)]) ∧ Below w.heap.size w w' := by
 refine (callsIn_wide (n := 3)).1 ?_
 refine callsIn_of_wp_marks Try.func59 rfl trivial ?_ rfl
 simp only [Try.ntmps59, List.size_toArray, List.length_cons, List.length_nil, Nat.reduceAdd, Nat.reduceSub, Array.replicate_succ, Array.replicate_zero, List.push_toArray, List.append_toArray, List.nil_append, List.cons_append]
 gi_wp2_with fail
 refine ⟨trivial, ?_⟩
 refine (callsIn_wide.2 (frames_any s _)).mono ?_
 rintro e w1 ⟨rfl, rfl⟩
 have hs4 : ((((w.alloc (.cells #[.int .i64 0] 3)).alloc (.cells #[.string ⟨#[]⟩] 9)).alloc (.cells #[.string ⟨#[]⟩] 9)).alloc (.cells #[.int .i64 0] 53)).heap.size = w.heap.size + 4 := by simp
 have hI0 : SpI w s [] (((((w.alloc (.cells #[.int .i64 0] 3)).alloc (.cells #[.string ⟨#[]⟩] 9)).alloc (.cells #[.string ⟨#[]⟩] 9)).alloc (.cells #[.int .i64 0] 53)).alloc (.cells #[.string (str s)] 9)) :=
  ⟨((((At.new w _ _).alloc _).alloc _).alloc _).alloc _, (((At.new_ _ _ _ (by simp)).alloc _).alloc _).alloc _, ((At.new_ _ _ _ (by simp)).alloc _).alloc _, (At.new_ _ _ _ (by simp)).alloc _, At.new_ _ _ _ (by simp),
   (((((Below.refl _ _).alloc (Nat.le_refl _) _).alloc (by simp) _).alloc (by simp; omega) _).alloc (by simp; omega) _).alloc (by simp; omega) _⟩
 have hs5 : (((((w.alloc (.cells #[.int .i64 0] 3)).alloc (.cells #[.string ⟨#[]⟩] 9)).alloc (.cells #[.string ⟨#[]⟩] 9)).alloc (.cells #[.int .i64 0] 53)).alloc (.cells #[.string (str s)] 9)).heap.size = w.heap.size + 5 := by simp
 rw [hs4]
 generalize (((((w.alloc (.cells #[.int .i64 0] 3)).alloc (.cells #[.string ⟨#[]⟩] 9)).alloc (.cells #[.string ⟨#[]⟩] 9)).alloc (.cells #[.int .i64 0] 53)).alloc (.cells #[.string (str s)] 9)) = w1 at *
 clear hs4
 have hI0' := Lib.hid hI0
 clear hI0
 gi_wp2_with fail
 refine rangesRound (gf := 70) (fst := #[]) (lb := #[.pointer (some ⟨w.heap.size + 4, 0, none⟩)]) rfl (enters_of Try.func70 (by kernel_rfl) rfl) (encs := encF) (good := fun _ => false) (xs := (front s).toList) (fun _ => rfl)
  (SpI w s) (SpI.old (by omega)) hI0'.out (frames_runs s hs (w.heap.size + 4) _ _ (fun p A hA => hA.text)) ?round ?done ?stop
 case round =>
  rintro l2 pre x Wr hW2 - hg
  have hpre : pre = [] := by
   cases pre with
   | nil => rfl
   | cons y ys => exact absurd (hg y (List.mem_cons_self ..)) (by simp)
  subst hpre
  dsimp only [encF]
  gi_wp2
  refine ⟨World.grownBy_alloc _ _ _, fun Vr hVs hVb hI2 => ?_⟩
  have hx : AtL Vr Wr.heap.size 138 [.int .i64 (x.k : Int), .string (str x.body), .string (str x.rest)] := (hVb _ (by omega)).trans (AtL.new Wr _ _)
  obtain ⟨a1, a2, a3, a4, a5, a6⟩ := hI2
  have hx0 : Wr.heap.size ≠ w.heap.size := by omega
  have hx1 : Wr.heap.size ≠ w.heap.size + 1 := by omega
  have hx2 : Wr.heap.size ≠ w.heap.size + 2 := by omega
  have hb5 : w.heap.size + 5 ≤ w1.heap.size := by omega
  have hv4 : w.heap.size + 4 < Vr.heap.size := a5.inside
  have hZ0 : ∀ ys, ZS w.heap.size x (fun _ => false) ys Vr := fun ys => ⟨⟨_, a1, fun h => by cases h⟩, ⟨_, a2, fun h => by cases h⟩, ⟨_, a3, fun h => by cases h⟩⟩
  replace a4 := Lib.hid a4
  replace a5 := Lib.hid a5
  replace a6 := Lib.hid a6
  clear hVs hVb hg hI0' a1 a2 a3
  gi_upto_region 3 with fail
  refine Sched.wpIn_region_sched 9 (fun W W' => Res w.heap.size W W') (Vv [some (.pointer (some ⟨Wr.heap.size, 0, none⟩)), some (.int .i64 (x.k : Int)), some (.pointer (some ⟨Wr.heap.size, 1, none⟩)), some (.string (str x.body)), some (.pointer (some ⟨Wr.heap.size, 2, none⟩)), some (.string (str x.rest)), none, none, none]) (ZS w.heap.size x) (by kernel_rfl) (by kernel_rfl) (by kernel_rfl) (by kernel_rfl) ?hO (fun h1 h2 => h1.trans h2) (fun h _ => h) ⟨rfl, rfl, rfl, Nat.le_refl _, fun _ _ _ _ _ => rfl⟩ (fun ys => hZ0 ys) (Sched.StepsA.steps (by kernel_rfl) ?hS) ?hQ
  case hO => exact fun hh => by obtain ⟨_, _, h⟩ := hh; exact h
  case hS =>
   simp only [List.take_succ_cons, List.take_zero]
   refine ⟨?_, ?_, ?_, ?_, ?_, ?_, ?_, ?_, ?_, trivial⟩
   · intro ys done W aa hE hn hF hD hZ hG hO
     replace hE : Res w.heap.size Vr W := hE
     have o6 := hO 6 (by kernel_rfl)
     replace o6 : aa.tmps[6]? = some (.pointer (some ⟨Wr.heap.size, 0, none⟩)) := o6
     go_wp2_with fail
     exact ⟨_, rfl, Res.refl _ _, Vv.val rfl rfl, ZS.light hZ (by decide) (by decide) (by decide)⟩
   · intro ys done W aa hE hn hF hD hZ hG hO
     replace hE : Res w.heap.size Vr W := hE
     have v0 := (hF 0 (by decide) (hD 0 (by kernel_rfl))).eq rfl
     have g0 := hG 0 10 rfl (Nat.le_of_ble_eq_true rfl)
     rw [v0] at g0
     have hAt := hE.at hx hx0 hx1 hx2
     have p := cell0 hAt
     go_wp2_with fail
     exact ⟨_, rfl, Res.refl _ _, Vv.val rfl rfl, ZS.light hZ (by decide) (by decide) (by decide)⟩
   · intro ys done W aa hE hn hF hD hZ hG hO
     replace hE : Res w.heap.size Vr W := hE
     have o6 := hO 6 (by kernel_rfl)
     replace o6 : aa.tmps[6]? = some (.pointer (some ⟨Wr.heap.size, 0, none⟩)) := o6
     go_wp2_with fail
     exact ⟨_, rfl, Res.refl _ _, Vv.val rfl rfl, ZS.light hZ (by decide) (by decide) (by decide)⟩
   · intro ys done W aa hE hn hF hD hZ hG hO
     replace hE : Res w.heap.size Vr W := hE
     have v2 := (hF 2 (by decide) (hD 2 (by kernel_rfl))).eq rfl
     have g2 := hG 2 12 rfl (Nat.le_of_ble_eq_true rfl)
     rw [v2] at g2
     have hAt := hE.at hx hx0 hx1 hx2
     have p := cell1 hAt
     go_wp2_with fail
     exact ⟨_, rfl, Res.refl _ _, Vv.val rfl rfl, ZS.light hZ (by decide) (by decide) (by decide)⟩
   · intro ys done W aa hE hn hF hD hZ hG hO
     replace hE : Res w.heap.size Vr W := hE
     have o6 := hO 6 (by kernel_rfl)
     replace o6 : aa.tmps[6]? = some (.pointer (some ⟨Wr.heap.size, 0, none⟩)) := o6
     go_wp2_with fail
     exact ⟨_, rfl, Res.refl _ _, Vv.val rfl rfl, ZS.light hZ (by decide) (by decide) (by decide)⟩
   · intro ys done W aa hE hn hF hD hZ hG hO
     replace hE : Res w.heap.size Vr W := hE
     have v4 := (hF 4 (by decide) (hD 4 (by kernel_rfl))).eq rfl
     have g4 := hG 4 14 rfl (Nat.le_of_ble_eq_true rfl)
     rw [v4] at g4
     have hAt := hE.at hx hx0 hx1 hx2
     have p := cell2 hAt
     go_wp2_with fail
     exact ⟨_, rfl, Res.refl _ _, Vv.val rfl rfl, ZS.light hZ (by decide) (by decide) (by decide)⟩
   · intro ys done W aa hE hn hF hD hZ hG hO
     replace hE : Res w.heap.size Vr W := hE
     have o2 := hO 2 (by kernel_rfl)
     replace o2 : aa.tmps[2]? = some (.pointer (some ⟨w.heap.size, 0, none⟩)) := o2
     have v1 := (hF 1 (by decide) (hD 1 (by kernel_rfl))).eq rfl
     have g1 := hG 1 11 rfl (Nat.le_of_ble_eq_true rfl)
     rw [v1] at g1
     have hZ' := Lib.hid hZ
     obtain ⟨⟨u, hu, _⟩, _, _⟩ := hZ
     have cc : W.cell? ⟨w.heap.size, 0, none⟩ = some u := by have := hu.cell 0; simpa using this
     have ff : W.frozen? ⟨w.heap.size, 0, none⟩ = false := hu.free 0
     clear hu hF hD hG hO
     go_wp2_with fail
     exact ⟨undef, rfl, Res.set _ (.inl rfl) _, Vv.any rfl, hZ'.out.put6⟩
   · intro ys done W aa hE hn hF hD hZ hG hO
     replace hE : Res w.heap.size Vr W := hE
     have o3 := hO 3 (by kernel_rfl)
     replace o3 : aa.tmps[3]? = some (.pointer (some ⟨w.heap.size + 1, 0, none⟩)) := o3
     have v3 := (hF 3 (by decide) (hD 3 (by kernel_rfl))).eq rfl
     have g3 := hG 3 13 rfl (Nat.le_of_ble_eq_true rfl)
     rw [v3] at g3
     have hZ' := Lib.hid hZ
     obtain ⟨_, ⟨u, hu, _⟩, _⟩ := hZ
     have cc : W.cell? ⟨w.heap.size + 1, 0, none⟩ = some u := by have := hu.cell 0; simpa using this
     have ff : W.frozen? ⟨w.heap.size + 1, 0, none⟩ = false := hu.free 0
     clear hu hF hD hG hO
     go_wp2_with fail
     exact ⟨undef, rfl, Res.set _ (.inr (.inl rfl)) _, Vv.any rfl, hZ'.out.put7⟩
   · intro ys done W aa hE hn hF hD hZ hG hO
     replace hE : Res w.heap.size Vr W := hE
     have o4 := hO 4 (by kernel_rfl)
     replace o4 : aa.tmps[4]? = some (.pointer (some ⟨w.heap.size + 1 + 1, 0, none⟩)) := o4
     have v5 := (hF 5 (by decide) (hD 5 (by kernel_rfl))).eq rfl
     have g5 := hG 5 15 rfl (Nat.le_of_ble_eq_true rfl)
     rw [v5] at g5
     have hZ' := Lib.hid hZ
     obtain ⟨_, _, ⟨u, hu, _⟩⟩ := hZ
     have cc : W.cell? ⟨w.heap.size + 1 + 1, 0, none⟩ = some u := by have := hu.cell 0; simpa using this
     have ff : W.frozen? ⟨w.heap.size + 1 + 1, 0, none⟩ = false := hu.free 0
     clear hu hF hD hG hO
     go_wp2_with fail
     exact ⟨undef, rfl, Res.set _ (.inr (.inr rfl)) _, Vv.any rfl, hZ'.out.put8⟩
  case hQ =>
   intro ys w4 hE hV hZ
   obtain ⟨done, hdn, ⟨v0, b0, e0⟩, ⟨v1, b1, e1⟩, ⟨v2, b2, e2⟩⟩ := hZ
   obtain rfl := e0 (hdn 6 (by decide))
   obtain rfl := e1 (hdn 7 (by decide))
   obtain rfl := e2 (hdn 8 (by decide))
   replace hE : Res w.heap.size Vr w4 := hE
   have b4 := hE.at a4.out (by omega) (by omega) (by omega)
   have b5 := hE.at a5.out (by omega) (by omega) (by omega)
   have b6 : Below w.heap.size w w4 := ⟨hE.os.trans a6.out.os, hE.tape.trans a6.out.tape, hE.output.trans a6.out.output, Nat.le_trans a6.out.size hE.size, fun k hk => (hE.block k (by omega) (by omega) (by omega) (by omega)).trans (a6.out.block k hk)⟩
   have c3 : w4.cell? ⟨w.heap.size + 1 + 1 + 1, 0, none⟩ = some (.int .i64 0) := by have := b4.cell 0; simpa using this
   have f3 : w4.frozen? ⟨w.heap.size + 1 + 1 + 1, 0, none⟩ = false := b4.free 0
   have hfin : SpI w s ([] ++ [x]) (w4.setCell ⟨w.heap.size + 1 + 1 + 1, 0, none⟩ (.int .i64 0)) := ⟨b0.far (by omega) _ _, b1.far (by omega) _ _, b2.far (by omega) _ _, b4.put 0 _, b5.far (by omega) _ _, below_set b6 (by omega) _ _⟩
   have hk : Kept w1.heap.size Vr (w4.setCell ⟨w.heap.size + 1 + 1 + 1, 0, none⟩ (.int .i64 0)) :=
    Kept.trans ⟨hE.size, fun k hk1 hk2 => hE.block k hk2 (by omega) (by omega) (by omega)⟩ (Kept.setCell _ (by omega) _)
   replace hfin := Lib.hid hfin
   replace hk := Lib.hid hk
   clear b0 b1 b2 b4 b5 b6 hE hV e0 e1 e2 hdn hZ0 a4 a5 a6 hx
   simp only [List.take_succ_cons, List.take_zero, List.drop_succ_cons, List.drop_zero, Sched.fill, Act.put]
   go_simp
   go_wp2_with fail
   gi_wp2
   exact ⟨rfl, hfin.out, by first | exact hk.out | (rw [← hs5]; exact hk.out)⟩
 case done =>
  rintro Wr hW2 hI2 hall hD
  have hF : front s = none := by
   cases hf : front s with
   | none => rfl
   | some f => exact absurd (hall f (by rw [hf]; simp)) (by simp)
  rw [hF] at hI2
  have hn := hI0'.out.below.size
  obtain ⟨a1, a2, a3, a4, a5, a6⟩ := hI2
  have c0 : Wr.cell? ⟨w.heap.size, 0, none⟩ = some (.int .i64 0) := by have := a1.cell 0; simpa [hdK, hdB, hdR] using this
  have c1 : Wr.cell? ⟨w.heap.size + 1, 0, none⟩ = some (.string (str [])) := by have := a2.cell 0; simpa [hdK, hdB, hdR] using this
  have c2 : Wr.cell? ⟨w.heap.size + 1 + 1, 0, none⟩ = some (.string (str [])) := by have := a3.cell 0; simpa [hdK, hdB, hdR] using this
  have c3 : Wr.cell? ⟨w.heap.size + 1 + 1 + 1, 0, none⟩ = some (.int .i64 0) := by have := a4.cell 0; simpa [hdK, hdB, hdR] using this
  have f0 := a1.free 0
  have f1 := a2.free 0
  have f2 : Wr.frozen? ⟨w.heap.size + 1 + 1, 0, none⟩ = false := a3.free 0
  have f3 : Wr.frozen? ⟨w.heap.size + 1 + 1 + 1, 0, none⟩ = false := a4.free 0
  have hres : spK s = 0 ∧ spB s = [] ∧ spR s = [] ∧ spE s = 14 := by simp [spK, spB, spR, spE, hF]
  obtain ⟨r0, r1, r2, r3⟩ := hres
  have hd2 : ((((Wr.setCell ⟨w.heap.size, 0, none⟩ (.int .i64 0)).setCell ⟨w.heap.size + 1, 0, none⟩ (.string ⟨#[]⟩)).setCell ⟨w.heap.size + 1 + 1, 0, none⟩ (.string ⟨#[]⟩)).setCell ⟨w.heap.size + 1 + 1 + 1, 0, none⟩ (.int .i64 14)).heap[w1.heap.size]? = some (.deferred (some [])) := by
   rw [Below.heap_setCell _ _ _ _ (by show w1.heap.size ≠ w.heap.size + 1 + 1 + 1; omega), Below.heap_setCell _ _ _ _ (by show w1.heap.size ≠ w.heap.size + 1 + 1; omega), Below.heap_setCell _ _ _ _ (by show w1.heap.size ≠ w.heap.size + 1; omega), Below.heap_setCell _ _ _ _ (by show w1.heap.size ≠ w.heap.size; omega)]
   exact hD
  have b0 := ((((a1.put 0 (.int .i64 0)).far (b := w.heap.size + 1) (by omega) 0 (.string ⟨#[]⟩)).far (b := w.heap.size + 1 + 1) (by omega) 0 (.string ⟨#[]⟩)).far (b := w.heap.size + 1 + 1 + 1) (by omega) 0 (.int .i64 14))
  have b1 := ((((a2.far (b := w.heap.size) (by omega) 0 (.int .i64 0)).put 0 (.string ⟨#[]⟩)).far (b := w.heap.size + 1 + 1) (by omega) 0 (.string ⟨#[]⟩)).far (b := w.heap.size + 1 + 1 + 1) (by omega) 0 (.int .i64 14))
  have b2 := ((((a3.far (b := w.heap.size) (by omega) 0 (.int .i64 0)).far (b := w.heap.size + 1) (by omega) 0 (.string ⟨#[]⟩)).put 0 (.string ⟨#[]⟩)).far (b := w.heap.size + 1 + 1 + 1) (by omega) 0 (.int .i64 14))
  have b3 := ((((a4.far (b := w.heap.size) (by omega) 0 (.int .i64 0)).far (b := w.heap.size + 1) (by omega) 0 (.string ⟨#[]⟩)).far (b := w.heap.size + 1 + 1) (by omega) 0 (.string ⟨#[]⟩)).put 0 (.int .i64 14))
  have hbl := below_set (below_set (below_set (below_set a6 (Nat.le_refl _) 0 (.int .i64 0)) (g := w.heap.size + 1) (by omega) 0 (.string ⟨#[]⟩)) (g := w.heap.size + 1 + 1) (by omega) 0 (.string ⟨#[]⟩)) (g := w.heap.size + 1 + 1 + 1) (by omega) 0 (.int .i64 14)
  have hfb := hbl.trans (belowK_b (w := w) (Nat.le_refl _) _ w1.heap.size _ (.deferred none) (by omega) hd2 rfl rfl)
  have hfin := Lib.hid (And.intro hd2 (And.intro b0 (And.intro b1 (And.intro b2 (And.intro b3 hfb)))))
  clear hd2 b0 b1 b2 b3 hbl hfb a1 a2 a3 a4 a5 a6
  have hr4 := Lib.hid (And.intro r0 (And.intro r1 (And.intro r2 r3)))
  clear r0 r1 r2 r3
  gi_wp2
  rw [hr4.out.1, hr4.out.2.1, hr4.out.2.2.1, hr4.out.2.2.2]
  obtain ⟨hd2, b0, b1, b2, b3, hfb⟩ := hfin.out
  refine ⟨by simp, .inl ⟨_, _, rfl, run_takeDeferred hd2, ?_⟩⟩
  exact ⟨_, res_sp (b := []) (t := []) rfl rfl rfl rfl rfl (putAt b0 (by omega)) (putAt b1 (by omega)) (putAt b2 (by omega)) (putAt b3 (by omega)), rfl, hfb⟩
 case stop =>
  rintro Wr hW2 hI2 hbad hD
  have hn := hI0'.out.below.size
  cases hf : front s with
  | none =>
   rw [hf] at hbad
   exact absurd (fun y hy => by cases hy) hbad
  | some f =>
   rw [hf] at hI2
   have hres : spK s = (f.k : Int) ∧ spB s = f.body ∧ spR s = f.rest ∧ spE s = 0 := by simp [spK, spB, spR, spE, hf]
   obtain ⟨r0, r1, r2, r3⟩ := hres
   obtain ⟨a1, a2, a3, a4, a5, a6⟩ := hI2
   have hfb := a6.trans (belowK_b (w := w) (Nat.le_refl _) _ w1.heap.size _ (.deferred none) (by omega) hD rfl rfl)
   have hfin := Lib.hid (And.intro hD (And.intro a1 (And.intro a2 (And.intro a3 (And.intro a4 hfb)))))
   clear hD a1 a2 a3 a4 a5 a6 hfb hbad hf
   have hr4 := Lib.hid (And.intro r0 (And.intro r1 (And.intro r2 r3)))
   clear r0 r1 r2 r3
   gi_wp2
   rw [hr4.out.1, hr4.out.2.1, hr4.out.2.2.1, hr4.out.2.2.2]
   obtain ⟨hd2, b0, b1, b2, b3, hfb⟩ := hfin.out
   refine ⟨by simp, .inl ⟨_, _, rfl, run_takeDeferred hd2, ?_⟩⟩
   exact ⟨_, res_sp (b := f.body) (t := f.rest) rfl rfl rfl rfl rfl (putAt b0 (by omega)) (putAt b1 (by omega)) (putAt b2 (by omega)) (putAt b3 (by omega)), rfl, hfb⟩
end Go.Proofs.Ytpefdmkfmcjfnaa.Fr

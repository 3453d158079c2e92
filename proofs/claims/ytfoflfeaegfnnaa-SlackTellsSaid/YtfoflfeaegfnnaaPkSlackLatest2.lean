import Derived.Test.YtfoflfeaegfnnaaPkSlackLatest
import Derived.Sort.CutIn

/-
  The contract of package slack's latest: the walk.
-/
namespace Go.Proofs.Ytfoflfeaegfnnaa.Slack
open Go.RowKit Go.Shelf Go.Proofs.Ytfoflfeaegfnnaa.Mem Go.Proofs.Ytfoflfeaegfnnaa.Route Go.Proofs.Ytfoflfeaegfnnaa.When Go.Proofs.Ytfoflfeaegfnnaa.Up Go.Proofs.Ytfoflfeaegfnnaa.Feas
set_option linter.unusedVariables false

attribute [local go_sem] Oper.semAt_some

set_option maxRecDepth 100000 in
set_option maxHeartbeats 4000000 in
theorem latest_any (v : Vh) (vl vt : Value) (l : List (Int × Int)) (t : List Rq) (hl : l.length ≤ 1000000) (hin : AllIn t l) (hbd : ∀ j, j ≤ l.length → 0 ≤ hdL v.en (latK v t l j) ∧ hdL v.en (latK v t l j) ≤ 1048576) (hok : ∀ k, k < l.length → 0 ≤ (visN v t l k).sv ∧ (visN v t l k).sv ≤ 1000)
    (w : World) (hL : Row w.heap.size w vl l) (hT : Rqs w.heap.size w vt t) :
    Calls Try.prog 25 #[.agg #[.int .i64 v.hx, .int .i64 v.hy, .int .i64 v.cp, .int .i64 v.st, .int .i64 v.en, vl, vt]] w fun e w' =>
      (∃ p : Nat, w.heap.size ≤ p ∧ e = .returned (.slice (some ⟨p, 0, none⟩) l.length l.length) ∧ At w' p 3 ((latL (homeV v) v.en (visL t l)).map (Value.int .i64)).toArray) ∧ Below w.heap.size w w' := by
  obtain ⟨xl, Nl, Cl, rfl, hNl, hl0, hlc1, hlc2⟩ := hL.opened
  obtain ⟨xt, Nt, Ct, rfl, hNt0, htc1, htc2, ht0⟩ := hT.opened
  have hNl1 : Nl ≤ 1000000 := by rw [hNl] at hl; exact hl
  obtain ⟨cs, hcs, hmk⟩ := made_ints Nl hNl1
  obtain ⟨q, hq⟩ : ∃ q, w.heap.size = q := ⟨_, rfl⟩
  obtain ⟨w1, hw1⟩ : ∃ w1, w.alloc (.cells #[.int .i64 v.hx, .int .i64 v.hy, .int .i64 v.cp, .int .i64 v.st, .int .i64 v.en, .slice xl Nl Cl, .slice xt Nt Ct] 76) = w1 := ⟨_, rfl⟩
  have hP1 : At w1 q 76 #[.int .i64 v.hx, .int .i64 v.hy, .int .i64 v.cp, .int .i64 v.st, .int .i64 v.en, .slice xl Nl Cl, .slice xt Nt Ct] := by rw [← hw1]; exact At.new_ _ _ _ hq.symm
  have hs1 : w1.heap.size = q + 1 := by rw [← hw1, ← hq]; simp
  obtain ⟨w2, hw2⟩ : ∃ w2, (w1.alloc (.cells cs 3)).alloc (.cells #[.slice (some ⟨q + 1, 0, none⟩) Nl Nl] 50) = w2 := ⟨_, rfl⟩
  have hP2 : At w2 q 76 #[.int .i64 v.hx, .int .i64 v.hy, .int .i64 v.cp, .int .i64 v.st, .int .i64 v.en, .slice xl Nl Cl, .slice xt Nt Ct] := by rw [← hw2]; exact (hP1.alloc _).alloc _
  have hc2 : At w2 (q + 1) 3 cs := by rw [← hw2]; exact (At.new_ _ _ _ hs1.symm).alloc _
  have hv2 : At w2 (q + 2) 50 #[.slice (some ⟨q + 1, 0, none⟩) Nl Nl] := by rw [← hw2]; exact At.new_ _ _ _ (by simp [hs1])
  have hs2 : w2.heap.size = q + 3 := by rw [← hw2]; simp [hs1]
  obtain ⟨w3, hw3⟩ : ∃ w3, w2.alloc (.cells #[.int .i64 v.en] 3) = w3 := ⟨_, rfl⟩
  have hs3 : w3.heap.size = q + 4 := by rw [← hw3]; simp [hs2]
  have hP3 : At w3 q 76 #[.int .i64 v.hx, .int .i64 v.hy, .int .i64 v.cp, .int .i64 v.st, .int .i64 v.en, .slice xl Nl Cl, .slice xt Nt Ct] := by rw [← hw3]; exact hP2.alloc _
  have hv3 : At w3 (q + 2) 50 #[.slice (some ⟨q + 1, 0, none⟩) Nl Nl] := by rw [← hw3]; exact hv2.alloc _
  obtain ⟨w4, hw4⟩ : ∃ w4, (w3.alloc (.cells #[.int .i64 Nl] 3)).alloc (.cells #[whereF v (.slice xl Nl Cl) (.slice xt Nt Ct)] 99) = w4 := ⟨_, rfl⟩
  have hs4 : w4.heap.size = q + 6 := by rw [← hw4]; simp [hs3]
  have hB4 : Below w.heap.size w w4 := by
    rw [← hw4, ← hw3, ← hw2, ← hw1]
    exact ((((((Below.refl _ _).alloc (Nat.le_refl _) _).alloc (by simp) _).alloc (by simp; omega) _).alloc (by simp; omega) _).alloc (by simp; omega) _).alloc (by simp; omega) _
  have hI0 : LatI w q (q + 1) (q + 4) (q + 5) Nl v (.slice xl Nl Cl) (.slice xt Nt Ct) l t [] w4 := by
    refine ⟨?_, ⟨cs, ?_, hcs, by simp [latK_zero], fun j x hj => by simp [latK_zero] at hj⟩, ?_, ?_, ?_, ?_, hB4⟩
    · rw [← hw4]; exact (hP3.alloc _).alloc _
    · rw [← hw4, ← hw3]; exact ((hc2.alloc _).alloc _).alloc _
    · rw [← hw4]; exact (hv3.alloc _).alloc _
    · rw [← hw4, ← hw3]
      simp only [List.length_nil, latK_zero]
      exact ((At.new_ _ _ _ hs2.symm).alloc _).alloc _
    · rw [← hw4, hNl]; exact (At.new_ _ _ _ hs3.symm).alloc _
    · rw [← hw4]; exact At.new_ _ _ _ (by simp [hs3])
  have hrun := from_runs v l t hl hin (.slice xl Nl Cl) (.slice xt Nt Ct) (q + 4) (q + 5) w.heap.size (w4.heap.size + 2) (by omega) (fromL v t l) (fromL_length v t l) (fun _ _ _ h => fromL_at h)
    (LatI w q (q + 1) (q + 4) (q + 5) Nl v (.slice xl Nl Cl) (.slice xt Nt Ct) l t) (fun p A hA => ⟨hA.hn, hA.hw, hL.keep hA.below (Nat.le_refl _), hT.keep hA.below (Nat.le_refl _)⟩)
  have hfr := from_any Nl v (.slice xl Nl Cl) (.slice xt Nt Ct) w3
  rw [hw4, hs3] at hfr
  have p0 := hP1.cell 0
  have p4 := hP2.cell 4
  have p5 := hP1.cell 5
  simp at p0 p4 p5
  have u0 := hv3.cell 0
  have t0 := hP3.cell 0
  have t1 := hP3.cell 1
  have t2 := hP3.cell 2
  have t3 := hP3.cell 3
  have t4 := hP3.cell 4
  have t5 := hP3.cell 5
  have t6 := hP3.cell 6
  simp at u0 t0 t1 t2 t3 t4 t5 t6
  have hw1' := Lib.hid hw1
  have hw2' := Lib.hid hw2
  have hw3' := Lib.hid hw3
  have hq' := Lib.hid hq
  have hs1' := Lib.hid hs1
  have hs2' := Lib.hid hs2
  have hs4' := Lib.hid hs4
  have hI0' := Lib.hid hI0
  have hrun' := Lib.hid hrun
  have hL' := Lib.hid hL
  have hT' := Lib.hid hT
  have hNl' := Lib.hid hNl
  have hbd' := Lib.hid hbd
  have hok' := Lib.hid hok
  have hin' := Lib.hid hin
  have hn1 : q < w1.heap.size := by omega
  have hn2 : q < w2.heap.size := by omega
  have hn3 : q + 2 < w3.heap.size := by omega
  have hwq : w.heap.size ≤ q := by omega
  clear hw1 hw2 hw3 hw4 hq hs1 hs2 hs4 hs3 hI0 hrun hL hT hNl hl hbd hok hin hP1 hP2 hP3 hc2 hv2 hv3 hB4 hl0 ht0 hNt0 hcs
  refine (callsIn_wide (n := 3)).1 ?_
  refine callsIn_of_wp_marks Try.func25 rfl trivial ?_ rfl
  simp only [Try.ntmps25, List.size_toArray, List.length_cons, List.length_nil, Nat.reduceAdd, Nat.reduceSub, Array.replicate_succ, Array.replicate_zero, List.push_toArray, List.append_toArray, List.nil_append, List.cons_append]
  gi_upto_region 1 with fail
  rw [hw1'.out]
  try simp only [hq'.out]
  gi_upto_region 2 with fail
  simp only [hs1'.out]
  rw [hw2'.out]
  gi_upto_region 3 with fail
  simp only [hs2'.out]
  rw [hw3'.out]
  clear hmk p0 p4 p5
  gi_wp2_with fail
  refine ⟨trivial, ?_⟩
  refine (callsIn_wide.2 hfr).mono ?_
  clear hfr u0 t0 t1 t2 t3 t4 t5 t6
  rintro e w4' ⟨rfl, rfl⟩
  gi_wp2_with fail
  refine rangesRound2 (gf := 58) (fst := #[]) (lb := #[.pointer (some ⟨q + 4, 0, none⟩), .pointer (some ⟨q + 4 + 1, 0, none⟩)]) rfl (enters_of Try.func58 (by kernel_rfl) rfl) (encs := encK) (good := fun _ => true) (xs := fromL v t l) (fun _ => rfl)
    (LatI w q (q + 1) (q + 4) (q + 5) Nl v (.slice xl Nl Cl) (.slice xt Nt Ct) l t) (LatI.old (by rw [hs4'.out]; omega)) hI0'.out hrun'.out ?round ?done ?stop
  case round =>
    rintro l2 pre y Wr ⟨rest, hx⟩ hW2 - hg
    have hy12 := Lib.hid (fromL_at hx)
    dsimp only [encK]
    gi_wp2
    refine ⟨World.grownBy_alloc _ _ _, fun Vr hVs hVb hI2 => ?_⟩
    obtain ⟨hy1, hy2⟩ := hy12.out
    obtain ⟨m, hm⟩ : ∃ m, Wr.heap.size = m := ⟨_, rfl⟩
    have hX : At Vr m 101 #[.int .i64 y.2.px, .int .i64 y.2.py, .int .i64 y.2.we, .int .i64 y.2.wl, .int .i64 y.2.sv] := by rw [← hm]; exact (hVb _ (by omega)).trans (At.new Wr _ _)
    have hmV : m < Vr.heap.size := hX.inside
    have hm6 : q + 8 ≤ m := by rw [hs4'.out] at hW2; omega
    obtain ⟨K, hK⟩ : ∃ K, y.1 = K := ⟨_, rfl⟩
    rw [hK] at hy1 hy2
    have hKl : K < l.length := by omega
    obtain ⟨LT, hLT⟩ : ∃ LT, hdL v.en (latK v t l pre.length) = LT := ⟨_, rfl⟩
    obtain ⟨D, hD⟩ : ∃ D, wy (visN v t l K) (visN v t l (K + 1)) = D := ⟨_, rfl⟩
    have hLb := hbd'.out pre.length (by omega)
    rw [hLT] at hLb
    have hDb := wy_bd (visN v t l K) (visN v t l (K + 1))
    rw [hD] at hDb
    have hsb := hok'.out K hKl
    rw [← hy2] at hsb
    have hlate : At Vr (q + 3) 3 #[.int .i64 LT] := by rw [← hLT]; exact hI2.late
    have htrip : At Vr q 76 #[.int .i64 v.hx, .int .i64 v.hy, .int .i64 v.cp, .int .i64 v.st, .int .i64 v.en, .slice xl Nl Cl, .slice xt Nt Ct] := hI2.trip
    have hrowB : Hid (Below w.heap.size w Vr) := Lib.hid hI2.below
    have hwV : w.heap.size ≤ Vr.heap.size := hI2.below.size
    have hcO : Hid (∀ W, Below Vr.heap.size Vr W → Calls Try.prog 41 #[.agg #[.int .i64 v.hx, .int .i64 v.hy, .int .i64 v.cp, .int .i64 v.st, .int .i64 v.en, .slice xl Nl Cl, .slice xt Nt Ct], .int .i64 K] W fun e w' => e = .returned (.int .i64 D) ∧ Below W.heap.size W w') := Lib.hid (by
      intro W hE
      have h9 := hrowB.out.trans (hE.mono hwV)
      have := onward_any v (.slice xl Nl Cl) (.slice xt Nt Ct) l t K hKl (by rw [hNl'.out]; exact hNl1) W ((hL'.out.keep h9 (Nat.le_refl _)).more h9.size) ((hT'.out.keep h9 (Nat.le_refl _)).more h9.size) hin'.out
      rw [hD] at this
      exact this)
    obtain ⟨k9, ⟨px, py, we, wl, sv⟩⟩ := y
    simp only at hK hy2 hsb hX ⊢
    subst hK
    have hI2' := Lib.hid hI2
    have hD' := Lib.hid hD
    have hLT' := Lib.hid hLT
    have hy1' := Lib.hid hy1
    have hy2' := Lib.hid hy2
    have hkN : k9 < Nl := by rw [← hNl'.out]; exact hKl
    have hVs' : w4.heap.size + 2 ≤ m := by rw [← hm]; exact hW2
    have hqn : Hid (w4.heap.size = q + 6) := hs4'
    have hmm := Lib.hid hm
    clear hy12 hVb hVs hx hg hI2 hD hLT hy1 hy2 hKl hm hW2 hI0' hrun' hw1' hw2' hw3' hq' hbd' hok'
    simp only [hmm.out]
    gi_upto_region 6 with fail
    refine Sched.wpIn_region_sched 13 (fun W W' => Below W.heap.size W W') (VK [.val (.pointer (some ⟨m, 2, none⟩)), .val (.pointer (some ⟨m, 3, none⟩)), .val (.int .i64 wl), .val (.int .i64 LT), .val (.pointer (some ⟨m, 4, none⟩)), .val (.int .i64 sv), .val (.int .i64 (LT - sv)), .val (.agg #[.int .i64 v.hx, .int .i64 v.hy, .int .i64 v.cp, .int .i64 v.st, .int .i64 v.en, .slice xl Nl Cl, .slice xt Nt Ct]), .val (.int .i64 k9), .val (.int .i64 D), .val (.int .i64 (LT - sv - D)), .of (fun v w => ∃ g : Nat, v = .slice (some ⟨g, 0, none⟩) 1 1 ∧ w.cell? ⟨g, 0, none⟩ = some (.int .i64 (LT - sv - D)) ∧ g < w.heap.size) (fun ⟨g, e, hc, hg⟩ hb => ⟨g, e, (hb.cell hg).trans hc, Nat.lt_of_lt_of_le hg hb.size⟩), .val (.int .i64 (min wl (LT - sv - D)))]) (fun _ _ _ => True) (by kernel_rfl) (by kernel_rfl) (by kernel_rfl) (by kernel_rfl) ?hOA (fun h1 h2 => belowTr h1 h2) (fun h1 h2 => VK.keep h1 h2) (Below.refl _ _).drew (fun _ => trivial) (Sched.StepsA.steps (by kernel_rfl) ?hSA) ?hQA
    case hSA =>
     simp only [List.take_succ_cons, List.take_zero]
     refine ⟨?_, ?_, ?_, ?_, ?_, ?_, ?_, ?_, ?_, ?_, ?_, ?_, ?_, trivial⟩
     · intro ys done W aa hE hn hF hD hZ hG hO
       replace hE : Below Vr.heap.size Vr W := hE
       have o6 := hO 6 (by kernel_rfl)
       replace o6 : aa.tmps[6]? = some (.pointer (some ⟨m, 0, none⟩)) := o6
       go_wp2_with fail
       first | exact ⟨_, rfl, Below.refl _ _, VK.val rfl rfl, trivial⟩ | exact ⟨_, rfl, Below.refl _ _, VK.val rfl rfl⟩
     · intro ys done W aa hE hn hF hD hZ hG hO
       replace hE : Below Vr.heap.size Vr W := hE
       have v0 := (hF 0 (by decide) (hD 0 (by kernel_rfl))).eq rfl
       have g0 := hG 0 21 rfl (Nat.le_of_ble_eq_true rfl)
       rw [v0] at g0
       go_wp2_with fail
       first | exact ⟨_, rfl, Below.refl _ _, VK.val rfl rfl, trivial⟩ | exact ⟨_, rfl, Below.refl _ _, VK.val rfl rfl⟩
     · intro ys done W aa hE hn hF hD hZ hG hO
       replace hE : Below Vr.heap.size Vr W := hE
       have v1 := (hF 1 (by decide) (hD 1 (by kernel_rfl))).eq rfl
       have g1 := hG 1 22 rfl (Nat.le_of_ble_eq_true rfl)
       rw [v1] at g1
       have hAt := hX.keep hE hX.inside
       have pc := hAt.cell 3
       simp at pc
       clear hAt
       go_wp2_with fail
       first | exact ⟨_, rfl, Below.refl _ _, VK.val rfl rfl, trivial⟩ | exact ⟨_, rfl, Below.refl _ _, VK.val rfl rfl⟩
     · intro ys done W aa hE hn hF hD hZ hG hO
       replace hE : Below Vr.heap.size Vr W := hE
       have o4 := hO 4 (by kernel_rfl)
       replace o4 : aa.tmps[4]? = some (.pointer (some ⟨q + 3, 0, none⟩)) := o4
       have hAt := hlate.keep hE hlate.inside
       have p0 := hAt.cell 0
       simp at p0
       clear hAt
       go_wp2_with fail
       first | exact ⟨_, rfl, Below.refl _ _, VK.val rfl rfl, trivial⟩ | exact ⟨_, rfl, Below.refl _ _, VK.val rfl rfl⟩
     · intro ys done W aa hE hn hF hD hZ hG hO
       replace hE : Below Vr.heap.size Vr W := hE
       have o6 := hO 6 (by kernel_rfl)
       replace o6 : aa.tmps[6]? = some (.pointer (some ⟨m, 0, none⟩)) := o6
       go_wp2_with fail
       first | exact ⟨_, rfl, Below.refl _ _, VK.val rfl rfl, trivial⟩ | exact ⟨_, rfl, Below.refl _ _, VK.val rfl rfl⟩
     · intro ys done W aa hE hn hF hD hZ hG hO
       replace hE : Below Vr.heap.size Vr W := hE
       have v4 := (hF 4 (by decide) (hD 4 (by kernel_rfl))).eq rfl
       have g4 := hG 4 25 rfl (Nat.le_of_ble_eq_true rfl)
       rw [v4] at g4
       have hAt := hX.keep hE hX.inside
       have pc := hAt.cell 4
       simp at pc
       clear hAt
       go_wp2_with fail
       first | exact ⟨_, rfl, Below.refl _ _, VK.val rfl rfl, trivial⟩ | exact ⟨_, rfl, Below.refl _ _, VK.val rfl rfl⟩
     · intro ys done W aa hE hn hF hD hZ hG hO
       replace hE : Below Vr.heap.size Vr W := hE
       have v3 := (hF 3 (by decide) (hD 3 (by kernel_rfl))).eq rfl
       have g3 := hG 3 24 rfl (Nat.le_of_ble_eq_true rfl)
       rw [v3] at g3
       have v5 := (hF 5 (by decide) (hD 5 (by kernel_rfl))).eq rfl
       have g5 := hG 5 26 rfl (Nat.le_of_ble_eq_true rfl)
       rw [v5] at g5
       go_wp2_with fail
       first | exact ⟨_, rfl, Below.refl _ _, VK.val rfl rfl, trivial⟩ | exact ⟨_, rfl, Below.refl _ _, VK.val rfl rfl⟩
     · intro ys done W aa hE hn hF hD hZ hG hO
       replace hE : Below Vr.heap.size Vr W := hE
       have o1 := hO 1 (by kernel_rfl)
       replace o1 : aa.tmps[1]? = some (.pointer (some ⟨q, 0, none⟩)) := o1
       have hAt := htrip.keep hE htrip.inside
       have p0 := hAt.cell 0
       have p1 := hAt.cell 1
       have p2 := hAt.cell 2
       have p3 := hAt.cell 3
       have p4 := hAt.cell 4
       have p5 := hAt.cell 5
       have p6 := hAt.cell 6
       simp at p0 p1 p2 p3 p4 p5 p6
       clear hAt
       go_wp2_with fail
       first | exact ⟨_, rfl, Below.refl _ _, VK.val rfl rfl, trivial⟩ | exact ⟨_, rfl, Below.refl _ _, VK.val rfl rfl⟩
     · intro ys done W aa hE hn hF hD hZ hG hO
       replace hE : Below Vr.heap.size Vr W := hE
       have o5 := hO 5 (by kernel_rfl)
       replace o5 : aa.tmps[5]? = some (.int .i64 k9) := o5
       go_wp2_with fail
       first | exact ⟨_, rfl, Below.refl _ _, VK.val rfl rfl, trivial⟩ | exact ⟨_, rfl, Below.refl _ _, VK.val rfl rfl⟩
     · intro ys done W aa hE hn hF hD hZ hG hO
       replace hE : Below Vr.heap.size Vr W := hE
       have v7 := (hF 7 (by decide) (hD 7 (by kernel_rfl))).eq rfl
       have g7 := hG 7 28 rfl (Nat.le_of_ble_eq_true rfl)
       rw [v7] at g7
       have v8 := (hF 8 (by decide) (hD 8 (by kernel_rfl))).eq rfl
       have g8 := hG 8 29 rfl (Nat.le_of_ble_eq_true rfl)
       rw [v8] at g8
       go_wp2_with fail
       refine (hcO.out W hE).mono ?_
       rintro e W' ⟨rfl, hb'⟩
       replace hb' := Lib.hid hb'
       go_wp2_with fail
       first | exact ⟨_, rfl, hb'.out, VK.val rfl rfl, trivial⟩ | exact ⟨_, rfl, hb'.out, VK.val rfl rfl⟩
     · intro ys done W aa hE hn hF hD hZ hG hO
       replace hE : Below Vr.heap.size Vr W := hE
       have v6 := (hF 6 (by decide) (hD 6 (by kernel_rfl))).eq rfl
       have g6 := hG 6 27 rfl (Nat.le_of_ble_eq_true rfl)
       rw [v6] at g6
       have v9 := (hF 9 (by decide) (hD 9 (by kernel_rfl))).eq rfl
       have g9 := hG 9 30 rfl (Nat.le_of_ble_eq_true rfl)
       rw [v9] at g9
       go_wp2_with fail
       first | exact ⟨_, rfl, Below.refl _ _, VK.val rfl rfl, trivial⟩ | exact ⟨_, rfl, Below.refl _ _, VK.val rfl rfl⟩
     · intro ys done W aa hE hn hF hD hZ hG hO
       replace hE : Below Vr.heap.size Vr W := hE
       have v10 := (hF 10 (by decide) (hD 10 (by kernel_rfl))).eq rfl
       have g10 := hG 10 31 rfl (Nat.le_of_ble_eq_true rfl)
       rw [v10] at g10
       go_wp2_with fail
       first | exact ⟨_, rfl, (Below.refl _ _).alloc (Nat.le_refl _) _, VK.of rfl ⟨_, rfl, (At.new W 3 #[.int .i64 (LT - sv - D)]).cell 0, by simp⟩, trivial⟩ | exact ⟨_, rfl, (Below.refl _ _).alloc (Nat.le_refl _) _, VK.of rfl ⟨_, rfl, (At.new W 3 #[.int .i64 (LT - sv - D)]).cell 0, by simp⟩⟩
     · intro ys done W aa hE hn hF hD hZ hG hO
       replace hE : Below Vr.heap.size Vr W := hE
       have v2 := (hF 2 (by decide) (hD 2 (by kernel_rfl))).eq rfl
       have g2 := hG 2 23 rfl (Nat.le_of_ble_eq_true rfl)
       rw [v2] at g2
       have v11 := (hF 11 (by decide) (hD 11 (by kernel_rfl))).get rfl
       have g11 := hG 11 32 rfl (Nat.le_of_ble_eq_true rfl)
       obtain ⟨gz, ez, cz, -⟩ := v11
       rw [ez] at g11
       go_wp2_with fail
       refine (least_any wl (LT - sv - D) _ 0 1 W cz).mono ?_
       rintro e W' ⟨rfl, hb'⟩
       replace hb' := Lib.hid hb'
       go_wp2_with fail
       first | exact ⟨_, rfl, hb'.out, VK.val rfl rfl, trivial⟩ | exact ⟨_, rfl, hb'.out, VK.val rfl rfl⟩
    case hQA =>
     intro ys w6 hE hF _
     replace hE : Below Vr.heap.size Vr w6 := hE
     have v12 := (hF 12 (by decide)).eq rfl
     have hI6 := Lib.hid (hI2'.out.on hE)
     have hl6 := hlate.keep hE hlate.inside
     have hm6' : m < w6.heap.size := Nat.lt_of_lt_of_le hmV hE.size
     have hE' := Lib.hid hE
     simp only [List.take_succ_cons, List.take_zero, List.drop_succ_cons, List.drop_zero, Sched.fill, v12]
     clear hF v12
     go_simp
     have l6 := hl6.cell 0
     have lf := hl6.free
     simp at l6
     have hvr : At w6 (q + 2) 50 #[.slice (some ⟨q + 1, 0, none⟩) Nl Nl] := hI6.out.var
     have v6 := hvr.cell 0
     simp at v6
     obtain ⟨ca, hca, hcn, -⟩ := hI6.out.row
     have fz := hca.free k9
     have cz := hca.cell k9
     rw [Array.getElem?_eq_getElem (by omega)] at cz
     generalize ca[k9]'(by omega) = old at cz
     obtain ⟨X, hX0⟩ : ∃ X, min wl (LT - sv - D) = X := ⟨_, rfl⟩
     have hq6 : q + 3 < w6.heap.size := hl6.inside
     have hfin : Hid (LatI w q (q + 1) (q + 4) (q + 5) Nl v (.slice xl Nl Cl) (.slice xt Nt Ct) l t (pre ++ [(k9, ⟨px, py, we, wl, sv⟩)]) ((w6.setCell ⟨q + 3, 0, none⟩ (.int .i64 X)).setCell ⟨q + 1, k9, none⟩ (.int .i64 X))) := Lib.hid (by
       refine LatI.next hI6.out hy1'.out hNl'.out (by omega) (by omega) (by omega) (by omega) ?_
       rw [hLT'.out, ← hX0, ← hD'.out]
       have hy9 : _ = visN v t l k9 := hy2'.out
       simp only [← hy9])
     have hheld : Hid (Held w4.heap.size Vr ((w6.setCell ⟨q + 3, 0, none⟩ (.int .i64 X)).setCell ⟨q + 1, k9, none⟩ (.int .i64 X))) := Lib.hid (by
       have e := hqn.out
       have h6 : Held w4.heap.size Vr w6 := ⟨hE'.out.size, hE'.out.block _ (by omega), hE'.out.block _ (by omega)⟩
       exact (h6.trans (Held.setCell _ (by omega) (by omega) _)).trans (Held.setCell _ (by omega) (by omega) _))
     clear hI6 hl6 hvr hca hcn hE' hE hX hlate htrip hLb hDb hsb
     rw [hX0]
     clear hX0
     go_wp2_with fail
     gi_wp2
     exact ⟨rfl, hfin.out, hheld.out⟩
    case hOA =>
     rintro ⟨_, _, h⟩
     exact h
  case done =>
    rintro Wr hW2 hI2 hall hD
    have hvr : At Wr (q + 2) 50 #[.slice (some ⟨q + 1, 0, none⟩) Nl Nl] := hI2.var
    have r0 := hvr.cell 0
    simp at r0
    have hpi := hvr.inside
    have hlen2 := fromL_length v t l
    have hI2' := Lib.hid hI2
    have hq6 := hs4'.out
    clear hI2 hall hI0' hrun' hw1' hw2' hw3' hvr
    gi_wp2
    refine ⟨by simp, .inl ⟨_, _, rfl, run_takeDeferred hD, ?_⟩⟩
    have hI4 : LatI w q (q + 1) (q + 4) (q + 5) Nl v (.slice xl Nl Cl) (.slice xt Nt Ct) l t (fromL v t l) (Wr.putObj w4.heap.size (.deferred none)) :=
      LatI.old (m := w.heap.size) (Nat.le_refl _) _ _ _ _ hI2'.out (grownBy_putObj' _ _ _) (fun r e => by cases e; exact ⟨by omega, _, hD, rfl⟩)
    refine ⟨.slice (some ⟨q + 1, 0, none⟩) Nl Nl, by simp [results, Try.results25, go_sem], ⟨q + 1, by omega, by rw [hNl'.out], ?_⟩, hI4.below⟩
    have h5 := hI4.row
    rw [hlen2, latK_all] at h5
    have e : (latL (homeV v) v.en (visL t l)).length = Nl := by rw [latL_length]; simp only [visL, List.length_map]; exact hNl'.out
    rw [← e] at h5
    exact h5.whole
  case stop =>
    rintro Wr hW2 hI2 hbad hD
    exact absurd (fun _ _ => rfl) hbad

end Go.Proofs.Ytfoflfeaegfnnaa.Slack

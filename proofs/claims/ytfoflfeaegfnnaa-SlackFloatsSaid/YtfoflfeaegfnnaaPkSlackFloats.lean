import Derived.Test.YtfoflfeaegfnnaaPkSlackParts
import Derived.Test.YtfoflfeaegfnnaaPkSlackWorks
import Derived.Test.YtfoflfeaegfnnaaPkSlackFloatMath
import Derived.Test.YtfoflfeaegfnnaaPkSchedIn

/-
  SlackFloats returns true, whatever the draft, the stop, the part of the float, and memory are.
-/
namespace Go.Proofs.Ytfoflfeaegfnnaa.Slack
open Go.RowKit Go.Sort Go.Proofs.Ytfoflfeaegfnnaa.Mem Go.Proofs.Ytfoflfeaegfnnaa.Route Go.Proofs.Ytfoflfeaegfnnaa.When Go.Proofs.Ytfoflfeaegfnnaa.Tail
set_option linter.unusedVariables false
open Go.Proofs.Ytfoflfeaegfnnaa.Feas

theorem Push_err (v : Vh) (vl vt : Value) (l : List (Int × Int)) (t : List Rq) (hl : l.length ≤ 1000000) (hnum : Nums l) (i by_ E : Int) (hE : pushE v l t i by_ = E) (h0 : E ≠ 0) (w : World) (hL : Row w.heap.size w vl l) (hT : Rqs w.heap.size w vt t) :
    Calls Try.prog 12 #[.agg #[.int .i64 v.hx, .int .i64 v.hy, .int .i64 v.cp, .int .i64 v.st, .int .i64 v.en], vl, vt, .int .i64 i, .int .i64 by_] w fun e w' => e = .returned (.tuple #[.slice none 0 0, .int .i64 0, .int .i64 E]) ∧ Below w.heap.size w w' :=
  (Push_all v vl vt l t hl hnum i by_ w hL hT).mono fun e w' ⟨⟨u, h1, _, h3⟩, h4⟩ => ⟨by
    have h5 : pushH v l t i by_ = 0 := by unfold pushH; rw [if_neg (by rw [hE]; exact h0)]
    rw [h1, h3 (by rw [hE]; exact h0), hE, h5], h4⟩
theorem times_len {v : Vh} {l : List (Int × Int)} {t : List Rq} (h : errT v l t = 0) : (timesL v l t).length = l.length := by
  unfold timesL
  rw [if_pos h, rowT_length]

set_option maxRecDepth 100000 in
set_option maxHeartbeats 8000000 in
theorem floats_any (a wd s0 e0 : Int) (xr xb : Option Addr) (Nr cr Nb cb : Nat) (rs : List S6) (bs : List Int) (ha : U8 a) (hwd : U8 wd) (hs0 : U8 s0) (he0 : 0 ≤ e0 ∧ e0 < 65536) (hrs : ∀ x ∈ rs, x.ok) (hbs : ∀ x ∈ bs, 0 ≤ x ∧ x < 256) (wh pt : Int) (hwh : 0 ≤ wh ∧ wh < 256) (hpt : 0 ≤ pt ∧ pt < 65536) (w : World) (hR : RowB w.heap.size w (.slice xr Nr cr) 6 (rs.map s6V)) (hB : RowB w.heap.size w (.slice xb Nb cb) 1 (bs.map Route.byV)) :
    Calls Try.prog 4 #[.agg #[.int .u8 a, .int .u8 wd, .slice xr Nr cr, .slice xb Nb cb, .int .u8 s0, .int .u16 e0], .int .u8 wh, .int .u16 pt] w fun e w' => e = .returned (.bool true) ∧ Below w.heap.size w w' := by
  obtain ⟨q, hq⟩ : ∃ q, w.heap.size = q := ⟨_, rfl⟩
  obtain ⟨w1, hw1⟩ : ∃ w1, w.alloc (.cells #[.int .u8 a, .int .u8 wd, .slice xr Nr cr, .slice xb Nb cb, .int .u8 s0, .int .u16 e0] 26) = w1 := ⟨_, rfl⟩
  have hX1 : At w1 q 26 #[.int .u8 a, .int .u8 wd, .slice xr Nr cr, .slice xb Nb cb, .int .u8 s0, .int .u16 e0] := by rw [← hw1]; exact At.new_ _ _ _ hq.symm
  have hb1 : Below w.heap.size w w1 := by rw [← hw1]; exact (Below.refl _ _).alloc (Nat.le_refl _) _
  have hR1 := Lib.hid (RowB.on hR hb1)
  have hB1 := Lib.hid (RowB.on hB hb1)
  have hrs' := Lib.hid hrs
  have hbs' := Lib.hid hbs
  have hw1' := Lib.hid hw1
  have hq' := Lib.hid hq
  have hs1 : q < w1.heap.size := hX1.inside
  clear hR hB hrs hbs hw1 hq
  go_enter Try.func4, Try.ntmps4
  go_upto_region 1 with fail
  first | rw [hw1'.out] | (simp only [hq'.out]; rw [hw1'.out])
  try simp only [hq'.out]
  go_wp2_with fail
  refine (works_any _).mono ?_
  rintro e w2 ⟨rfl, hb2⟩
  have hX2 := hX1.keep hb2 hX1.inside
  have hbA := hb1.trans (hb2.mono hb1.size)
  have hp := parts_any a wd s0 e0 xr xb Nr cr Nb cb rs bs ha hwd hs0 he0 hrs'.out hbs'.out _ (RowB.on hR1.out hb2) (RowB.on hB1.out hb2)
  have x0 := hX2.cell 0
  have x1 := hX2.cell 1
  have x2 := hX2.cell 2
  have x3 := hX2.cell 3
  have x4 := hX2.cell 4
  have x5 := hX2.cell 5
  simp at x0 x1 x2 x3 x4 x5
  have hs2 := hX2.inside
  clear hX1 hb1 hb2 hR1 hB1 hrs' hbs' ha hwd hs0 he0 hs1 hw1' hX2
  go_wp2_with fail
  refine hp.mono ?_
  clear hp x0 x1 x2 x3 x4 x5 hs2
  rintro e w3 ⟨⟨v, ut, ul, l, t, rfl, hen, hro, hnm, hlo, hqr, ht6, ht12⟩, hb3⟩
  have hen' := Lib.hid hen
  have hnum := Lib.hid hnm
  have hl12 := Lib.hid hlo
  have ht6' := Lib.hid ht6
  have ht12' := Lib.hid ht12
  obtain ⟨n, hn⟩ : ∃ n, w3.heap.size = n := ⟨_, rfl⟩
  obtain ⟨w4, hw4⟩ : ∃ w4, w3.alloc (.cells #[.int .i64 v.hx, .int .i64 v.hy, .int .i64 v.cp, .int .i64 v.st, .int .i64 v.en] 31) = w4 := ⟨_, rfl⟩
  have hb34 : Below w3.heap.size w3 w4 := by rw [← hw4]; exact (Below.refl _ _).alloc (Nat.le_refl _) _
  have hV4 : At w4 n 31 #[.int .i64 v.hx, .int .i64 v.hy, .int .i64 v.cp, .int .i64 v.st, .int .i64 v.en] := by rw [← hw4]; exact At.new_ _ _ _ hn.symm
  have hbB := Lib.hid (hbA.trans ((hb3.trans (hb34.mono hb3.size)).mono hbA.size))
  have hro4 := Lib.hid (hro.on hb34)
  have hqr4 := Lib.hid (hqr.on hb34)
  obtain ⟨xl, Nl, cl, rfl, hNl, hNl0, hlc1, hlc2⟩ := hro.opened
  obtain ⟨xt, Nt, ct, rfl, hNt, htc1, htc2, _⟩ := hqr.opened
  unfold maxLen at hlc2 htc2
  have hNl' : Hid (l.length = Nl) := Lib.hid hNl.out
  have hNt' := Lib.hid hNt
  have hN12 : Nl ≤ 12 := by rw [← hNl.out]; exact hlo
  have hNt12 : Nt ≤ 12 := by rw [← hNt]; exact ht12
  have hw4' := Lib.hid hw4
  have hn' := Lib.hid hn
  have hnw : n < w4.heap.size := hV4.inside
  clear hb3 hb34 hbA hro hqr hnm hlo hw4 hn hen ht6 ht12 hNl hNt hNl0
  go_upto_region 4 with fail
  simp only [hn'.out]
  rw [hw4'.out]
  have hcT := Times_all v (.slice xl Nl cl) (.slice xt Nt ct) l t (by have := hl12.out; omega) hnum.out w4 hro4.out hqr4.out
  obtain ⟨E, hE⟩ : ∃ E, errT v l t = E := ⟨_, rfl⟩
  obtain ⟨H, hH⟩ : ∃ H, homeT v l t = H := ⟨_, rfl⟩
  rw [hE, hH] at hcT
  have hE' := Lib.hid hE
  have hH' := Lib.hid hH
  clear hE hH
  have v0 := hV4.cell 0
  have v1 := hV4.cell 1
  have v2 := hV4.cell 2
  have v3 := hV4.cell 3
  have v4 := hV4.cell 4
  simp at v0 v1 v2 v3 v4
  go_wp2_with fail
  refine hcT.mono ?_
  clear hcT v0 v1 v2 v3 v4
  rintro e w5 ⟨⟨ut0, rfl, hts, -⟩, hb5⟩
  have hV5 := hV4.keep hb5 hV4.inside
  have hro5 := Lib.hid (hro4.out.on hb5)
  have hqr5 := Lib.hid (hqr4.out.on hb5)
  have hB5 := Lib.hid (hbB.out.trans (hb5.mono hbB.out.size))
  obtain ⟨xa, Na, ca, rfl, hNa, ha1, ha2, -⟩ := hts.opened
  unfold maxLen at ha2
  have hts5 := Lib.hid hts
  have hNa' := Lib.hid hNa
  have hcF := Float_all v (.slice xl Nl cl) (.slice xt Nt ct) l t (by have := hl12.out; omega) hnum.out w5 hro5.out hqr5.out
  rw [hE'.out] at hcF
  have v0 := hV5.cell 0
  have v1 := hV5.cell 1
  have v2 := hV5.cell 2
  have v3 := hV5.cell 3
  have v4 := hV5.cell 4
  simp at v0 v1 v2 v3 v4
  have hn5 := hV5.inside
  clear hts hNa hV4 hro4 hqr4 hbB hb5
  go_wp2_with fail
  refine hcF.mono ?_
  clear hcF v0 v1 v2 v3 v4
  rintro e w6 ⟨⟨uf, rfl, hfl, hfn⟩, hb6⟩
  have hV6 := hV5.keep hb6 hV5.inside
  have hro6 := Lib.hid (hro5.out.on hb6)
  have hqr6 := Lib.hid (hqr5.out.on hb6)
  have hts6 := Lib.hid (hts5.out.on hb6)
  have hB6 := Lib.hid (hB5.out.trans (hb6.mono hB5.out.size))
  have hfl' := Lib.hid hfl
  have hfn' := Lib.hid hfn
  clear hfl hfn hV5 hro5 hqr5 hts5 hB5 hb6 hn5
  cases he0 : (E == 0)
  · have he1 : (E != 0) = true := by simpa using he0
    obtain rfl := hfn'.out (by simpa using he0)
    have heq : (E == E) = true := by simp
    go_wp2
    go_ret
    exact ⟨rfl, hB6.out⟩
  have he1 : (E != 0) = false := by simpa using he0
  obtain rfl : E = 0 := by simpa using he0
  obtain ⟨xf, Nf, cf, rfl, hNf, hf1, hf2⟩ := hfl'.out.opened
  unfold maxLen at hf2
  have hNf2 : Nf = Nl := by
    rw [← hNf.out]
    unfold floatV floatL
    rw [List.length_zipWith, latest_len hE'.out, times_len hE'.out, hNl'.out, Nat.min_self]
  subst hNf2
  have hNa2 : Na = Nf := by rw [← hNa'.out, times_len hE'.out, hNl'.out]
  subst hNa2
  clear hNf hfn' hNa'
  by_cases hz : Na = 0
  · subst hz
    go_wp2
    go_ret
    exact ⟨rfl, hB6.out⟩
  obtain ⟨i, hi⟩ : ∃ i : Nat, wh.tmod (Na : Int) = i := ⟨(wh.tmod Na).toNat, by
    have := Int.tmod_nonneg (Na : Int) hwh.1
    omega⟩
  have hiN : i < Na := by
    have := Int.tmod_lt_of_pos wh (show (0 : Int) < (Na : Int) by omega)
    omega
  have hil : i < l.length := by rw [hNl'.out]; exact hiN
  obtain ⟨F, hF, hF0, hF1, hP9, hP0, hHb, hall⟩ := float_facts hE'.out hil hen'.out
  rw [hH'.out] at hHb hall
  obtain ⟨b, hb⟩ : ∃ b : Int, pt.tmod (F + 1) = b := ⟨_, rfl⟩
  have hb0 : 0 ≤ b := by rw [← hb]; exact Int.tmod_nonneg _ hpt.1
  have hbF : b ≤ F := by
    have := Int.tmod_lt_of_pos pt (show (0 : Int) < F + 1 by omega)
    omega
  obtain ⟨hPb, hXl, hX1, hX2, hXk⟩ := hall b hb0 hbF
  obtain ⟨LAST, hLAST⟩ : ∃ z, pushH v l t i b = z := ⟨_, rfl⟩
  rw [hLAST] at hX1 hX2
  have hNz : ((Na : Int) == 0) = false := by simp; omega
  have hFz : (F + 1 == 0) = false := by simp; omega
  have hiI : ((i : Int) < (Na : Int)) := by omega
  have hi0 : (0 : Int) ≤ (i : Int) := by omega
  obtain ⟨gf, of_, rfl, hgf, a0⟩ := Ints.number hfl'.out hF
  have hF' := Lib.hid hF
  have hP9' := Lib.hid hP9
  have hP0' := Lib.hid hP0
  have hPb' := Lib.hid hPb
  have hXl' := Lib.hid hXl
  have hXk' := Lib.hid hXk
  have hLAST' := Lib.hid hLAST
  have hn6 := hV6.inside
  clear hF hP9 hP0 hPb hXl hXk hLAST hall hil
  go_upto_region 12 with fail
  have v0 := cell_regrown (hV6.cell 0)
  have v1 := cell_regrown (hV6.cell 1)
  have v2 := cell_regrown (hV6.cell 2)
  have v3 := cell_regrown (hV6.cell 3)
  have v4 := cell_regrown (hV6.cell 4)
  simp at v0 v1 v2 v3 v4
  have ka0 := cell_regrown a0
  have hcq := fun d os => Calls.regrown_of (Push_err v (.slice xl Na cl) (.slice xt Nt ct) l t (by have := hl12.out; omega) hnum.out i (F + 1) 9 hP9'.out (by decide) (grow (redrawn w6 d) os) (hro6.out.on (below_regrown w6 d os)) (hqr6.out.on (below_regrown w6 d os)))
  refine wp_region_quiet_below (by kernel_rfl) (by kernel_rfl) ?_
  repeat (go_big_quiet_step (with_reducible exact hcq _ _))
  refine wpQuiet_nil ?_
  intro _ hw'
  obtain ⟨⟨dq, osq⟩, hw''⟩ := hw'
  subst hw''
  have hb' := below_regrown w6 dq osq
  have hV7 := hV6.keep hb' hV6.inside
  have hro7 := Lib.hid (hro6.out.on hb')
  have hqr7 := Lib.hid (hqr6.out.on hb')
  have hts7 := Lib.hid (hts6.out.on hb')
  have hfl7 : Ints _ _ (.slice (some ⟨gf, of_, none⟩) Na cf) (floatV v l t) := RowB.on hfl'.out hb'
  have hB7 := Lib.hid (hB6.out.trans (hb'.mono hB6.out.size))
  clear hcq v0 v1 v2 v3 v4 ka0 a0 hV6 hro6 hqr6 hts6 hfl' hB6 hb' hgf hn6
  generalize grow (redrawn w6 dq) osq = w7 at *
  obtain ⟨gf2, of2, ef, hgf, a0⟩ := Ints.number hfl7 hF'.out
  cases ef
  obtain ⟨H1, hH1⟩ : ∃ z, pushH v l t i F = z := ⟨_, rfl⟩
  have hcP : Hid (∀ W, Below w7.heap.size w7 W → Calls Try.prog 12 #[.agg #[.int .i64 v.hx, .int .i64 v.hy, .int .i64 v.cp, .int .i64 v.st, .int .i64 v.en], .slice xl Na cl, .slice xt Nt ct, .int .i64 i, .int .i64 F] W fun e w' => (∃ u, e = .returned (.tuple #[u, .int .i64 H1, .int .i64 0])) ∧ Below W.heap.size W w') := Lib.hid (by
    intro W hE
    have h := Push_all v (.slice xl Na cl) (.slice xt Nt ct) l t (by have := hl12.out; omega) hnum.out i F W (hro7.out.on hE) (hqr7.out.on hE)
    rw [hP0'.out, hH1] at h
    exact h.mono fun e w' ⟨⟨u, h1, _, _⟩, h2⟩ => ⟨⟨u, h1⟩, h2⟩)
  have hn7 := hV7.inside
  go_upto_region 13 with fail
  refine Sched.wp_region_sched 15 (fun W W' => Below W.heap.size W W') (VK [.val (.agg #[.int .i64 v.hx, .int .i64 v.hy, .int .i64 v.cp, .int .i64 v.st, .int .i64 v.en]), .val (.slice xl Na cl), .val (.slice xt Nt ct), .val (.int .i64 i), .val (.slice (some ⟨gf, of_, none⟩) Na cf), .val (.int .i64 i), .val (.pointer (some ⟨gf, of_ + i, none⟩)), .val (.int .i64 F), .of (fun v w => ∃ u, v = .tuple #[u, .int .i64 H1, .int .i64 0]) (fun h _ => h), .of (fun v w => ∃ u, v = .tuple #[u, .int .i64 H1, .int .i64 0]) (fun h _ => h), .of (fun _ _ => True) (fun _ _ => trivial), .val (.int .i64 H1), .val (.int .i64 0), .of (fun _ _ => True) (fun _ _ => trivial), .val (.int .i64 H1)]) (fun _ _ _ => True) (by kernel_rfl) (by kernel_rfl) (by kernel_rfl) (fun h1 h2 => belowTr h1 h2) (fun h1 h2 => VK.keep h1 h2) (Below.refl _ _).drew (fun _ => trivial) (Sched.StepsA.steps (by kernel_rfl) ?hSA) ?hQA
  case hSA =>
   simp only [List.take_succ_cons, List.take_zero]
   refine ⟨?_, ?_, ?_, ?_, ?_, ?_, ?_, ?_, ?_, ?_, ?_, ?_, ?_, ?_, ?_, trivial⟩
   · intro ys done W aa hE hn hF hD hZ hG hO
     replace hE : Below w7.heap.size w7 W := hE
     have o7 := hO 7 (by kernel_rfl)
     replace o7 : aa.tmps[7]? = some (.pointer (some ⟨n, 0, none⟩)) := o7
     have hAt := hV7.keep hE hV7.inside
     have p0 := hAt.cell 0
     have p1 := hAt.cell 1
     have p2 := hAt.cell 2
     have p3 := hAt.cell 3
     have p4 := hAt.cell 4
     simp at p0 p1 p2 p3 p4
     clear hAt
     go_wp2_with fail
     first | exact ⟨_, rfl, Below.refl _ _, VK.val rfl rfl, trivial⟩ | exact ⟨_, rfl, Below.refl _ _, VK.val rfl rfl⟩
   · intro ys done W aa hE hn hF hD hZ hG hO
     replace hE : Below w7.heap.size w7 W := hE
     have o9 := hO 9 (by kernel_rfl)
     replace o9 : aa.tmps[9]? = some (.slice xl Na cl) := o9
     go_wp2_with fail
     first | exact ⟨_, rfl, Below.refl _ _, VK.val rfl rfl, trivial⟩ | exact ⟨_, rfl, Below.refl _ _, VK.val rfl rfl⟩
   · intro ys done W aa hE hn hF hD hZ hG hO
     replace hE : Below w7.heap.size w7 W := hE
     have o8 := hO 8 (by kernel_rfl)
     replace o8 : aa.tmps[8]? = some (.slice xt Nt ct) := o8
     go_wp2_with fail
     first | exact ⟨_, rfl, Below.refl _ _, VK.val rfl rfl, trivial⟩ | exact ⟨_, rfl, Below.refl _ _, VK.val rfl rfl⟩
   · intro ys done W aa hE hn hF hD hZ hG hO
     replace hE : Below w7.heap.size w7 W := hE
     have o15 := hO 15 (by kernel_rfl)
     replace o15 : aa.tmps[15]? = some (.int .i64 i) := o15
     go_wp2_with fail
     first | exact ⟨_, rfl, Below.refl _ _, VK.val rfl rfl, trivial⟩ | exact ⟨_, rfl, Below.refl _ _, VK.val rfl rfl⟩
   · intro ys done W aa hE hn hF hD hZ hG hO
     replace hE : Below w7.heap.size w7 W := hE
     have o13 := hO 13 (by kernel_rfl)
     replace o13 : aa.tmps[13]? = some (.slice (some ⟨gf, of_, none⟩) Na cf) := o13
     go_wp2_with fail
     first | exact ⟨_, rfl, Below.refl _ _, VK.val rfl rfl, trivial⟩ | exact ⟨_, rfl, Below.refl _ _, VK.val rfl rfl⟩
   · intro ys done W aa hE hn hF hD hZ hG hO
     replace hE : Below w7.heap.size w7 W := hE
     have o15 := hO 15 (by kernel_rfl)
     replace o15 : aa.tmps[15]? = some (.int .i64 i) := o15
     go_wp2_with fail
     first | exact ⟨_, rfl, Below.refl _ _, VK.val rfl rfl, trivial⟩ | exact ⟨_, rfl, Below.refl _ _, VK.val rfl rfl⟩
   · intro ys done W aa hE hn hF hD hZ hG hO
     replace hE : Below w7.heap.size w7 W := hE
     have v4 := (hF 4 (by decide) (hD 4 (by kernel_rfl))).eq rfl
     have g4 := hG 4 114 rfl (Nat.le_of_ble_eq_true rfl)
     rw [v4] at g4
     have v5 := (hF 5 (by decide) (hD 5 (by kernel_rfl))).eq rfl
     have g5 := hG 5 115 rfl (Nat.le_of_ble_eq_true rfl)
     rw [v5] at g5
     go_wp2_with fail
     first | exact ⟨_, rfl, Below.refl _ _, VK.val rfl rfl, trivial⟩ | exact ⟨_, rfl, Below.refl _ _, VK.val rfl rfl⟩
   · intro ys done W aa hE hn hF hD hZ hG hO
     replace hE : Below w7.heap.size w7 W := hE
     have v6 := (hF 6 (by decide) (hD 6 (by kernel_rfl))).eq rfl
     have g6 := hG 6 116 rfl (Nat.le_of_ble_eq_true rfl)
     rw [v6] at g6
     have pc := (hE.cell (p := ⟨gf, of_ + i, none⟩) hgf).trans a0
     go_wp2_with fail
     first | exact ⟨_, rfl, Below.refl _ _, VK.val rfl rfl, trivial⟩ | exact ⟨_, rfl, Below.refl _ _, VK.val rfl rfl⟩
   · intro ys done W aa hE hn hF hD hZ hG hO
     replace hE : Below w7.heap.size w7 W := hE
     have v0 := (hF 0 (by decide) (hD 0 (by kernel_rfl))).eq rfl
     have g0 := hG 0 110 rfl (Nat.le_of_ble_eq_true rfl)
     rw [v0] at g0
     have v1 := (hF 1 (by decide) (hD 1 (by kernel_rfl))).eq rfl
     have g1 := hG 1 111 rfl (Nat.le_of_ble_eq_true rfl)
     rw [v1] at g1
     have v2 := (hF 2 (by decide) (hD 2 (by kernel_rfl))).eq rfl
     have g2 := hG 2 112 rfl (Nat.le_of_ble_eq_true rfl)
     rw [v2] at g2
     have v3 := (hF 3 (by decide) (hD 3 (by kernel_rfl))).eq rfl
     have g3 := hG 3 113 rfl (Nat.le_of_ble_eq_true rfl)
     rw [v3] at g3
     have v7 := (hF 7 (by decide) (hD 7 (by kernel_rfl))).eq rfl
     have g7 := hG 7 117 rfl (Nat.le_of_ble_eq_true rfl)
     rw [v7] at g7
     go_wp2_with fail
     refine (hcP.out W hE).mono ?_
     rintro e W' ⟨⟨u8, rfl⟩, hb'⟩
     replace hb' := Lib.hid hb'
     go_wp2_with fail
     first | exact ⟨_, rfl, hb'.out, VK.of rfl ⟨_, rfl⟩, trivial⟩ | exact ⟨_, rfl, hb'.out, VK.of rfl ⟨_, rfl⟩⟩
   · intro ys done W aa hE hn hF hD hZ hG hO
     replace hE : Below w7.heap.size w7 W := hE
     have v8 := (hF 8 (by decide) (hD 8 (by kernel_rfl))).get rfl
     have g8 := hG 8 118 rfl (Nat.le_of_ble_eq_true rfl)
     go_wp2_with fail
     first | exact ⟨_, rfl, Below.refl _ _, VK.of rfl v8, trivial⟩ | exact ⟨_, rfl, Below.refl _ _, VK.of rfl v8⟩
   · intro ys done W aa hE hn hF hD hZ hG hO
     replace hE : Below w7.heap.size w7 W := hE
     have v9 := (hF 9 (by decide) (hD 9 (by kernel_rfl))).get rfl
     have g9 := hG 9 109 rfl (Nat.le_of_ble_eq_true rfl)
     obtain ⟨u9, eu⟩ := v9
     rw [eu] at g9
     go_wp2_with fail
     first | exact ⟨_, rfl, Below.refl _ _, VK.of rfl trivial, trivial⟩ | exact ⟨_, rfl, Below.refl _ _, VK.of rfl trivial⟩
   · intro ys done W aa hE hn hF hD hZ hG hO
     replace hE : Below w7.heap.size w7 W := hE
     have v9 := (hF 9 (by decide) (hD 9 (by kernel_rfl))).get rfl
     have g9 := hG 9 109 rfl (Nat.le_of_ble_eq_true rfl)
     obtain ⟨u9, eu⟩ := v9
     rw [eu] at g9
     go_wp2_with fail
     first | exact ⟨_, rfl, Below.refl _ _, VK.val rfl rfl, trivial⟩ | exact ⟨_, rfl, Below.refl _ _, VK.val rfl rfl⟩
   · intro ys done W aa hE hn hF hD hZ hG hO
     replace hE : Below w7.heap.size w7 W := hE
     have v9 := (hF 9 (by decide) (hD 9 (by kernel_rfl))).get rfl
     have g9 := hG 9 109 rfl (Nat.le_of_ble_eq_true rfl)
     obtain ⟨u9, eu⟩ := v9
     rw [eu] at g9
     go_wp2_with fail
     first | exact ⟨_, rfl, Below.refl _ _, VK.val rfl rfl, trivial⟩ | exact ⟨_, rfl, Below.refl _ _, VK.val rfl rfl⟩
   · intro ys done W aa hE hn hF hD hZ hG hO
     replace hE : Below w7.heap.size w7 W := hE
     have v10 := (hF 10 (by decide) (hD 10 (by kernel_rfl))).get rfl
     have g10 := hG 10 119 rfl (Nat.le_of_ble_eq_true rfl)
     go_wp2_with fail
     first | exact ⟨_, rfl, Below.refl _ _, VK.of rfl trivial, trivial⟩ | exact ⟨_, rfl, Below.refl _ _, VK.of rfl trivial⟩
   · intro ys done W aa hE hn hF hD hZ hG hO
     replace hE : Below w7.heap.size w7 W := hE
     have v11 := (hF 11 (by decide) (hD 11 (by kernel_rfl))).eq rfl
     have g11 := hG 11 120 rfl (Nat.le_of_ble_eq_true rfl)
     rw [v11] at g11
     go_wp2_with fail
     first | exact ⟨_, rfl, Below.refl _ _, VK.val rfl rfl, trivial⟩ | exact ⟨_, rfl, Below.refl _ _, VK.val rfl rfl⟩
  case hQA =>
   intro ys w8 hE hF _
   replace hE : Below w7.heap.size w7 w8 := hE
   have v12 := (hF 12 (by decide)).eq rfl
   have v14 := (hF 14 (by decide)).eq rfl
   have hV8 := hV7.keep hE hV7.inside
   have hro8 := Lib.hid (hro7.out.on hE)
   have hqr8 := Lib.hid (hqr7.out.on hE)
   have hts8 := Lib.hid (hts7.out.on hE)
   have hB8 := Lib.hid (hB7.out.trans (hE.mono hB7.out.size))
   simp only [List.take_succ_cons, List.take_zero, List.drop_succ_cons, List.drop_zero, Sched.fill, v12, v14]
   clear hF v12 v14 hV7 hro7 hqr7 hts7 hB7 hfl7 hcP hn7 a0 hE
   go_simp
   have hcB := Push_all v (.slice xl Na cl) (.slice xt Nt ct) l t (by have := hl12.out; omega) hnum.out i b w8 hro8.out hqr8.out
   rw [hPb'.out, hLAST'.out] at hcB
   have v0 := hV8.cell 0
   have v1 := hV8.cell 1
   have v2 := hV8.cell 2
   have v3 := hV8.cell 3
   have v4 := hV8.cell 4
   simp at v0 v1 v2 v3 v4
   have hn8 := hV8.inside
   clear hro8 hqr8
   go_wp2_with fail
   refine hcB.mono ?_
   clear hcB v0 v1 v2 v3 v4
   rintro e w9 ⟨⟨ux, rfl, hx, -⟩, hb9⟩
   have hB9 := Lib.hid (hB8.out.trans (hb9.mono hB8.out.size))
   have hts9 := Lib.hid (hts8.out.on hb9)
   obtain ⟨xx, Nx, cx, rfl, hNx, hx1, hx2, -⟩ := hx.opened
   unfold maxLen at hx2
   have hNx2 : Nx = Na := by rw [← hNx, hXl'.out, hNl'.out]
   subst hNx2
   have hx9 := Lib.hid hx
   have g1 : decide (LAST < H) = false := by rw [decide_eq_false_iff_not]; omega
   have g2 : decide (H + b < LAST) = false := by rw [decide_eq_false_iff_not]; omega
   clear hb9 hV8 hts8 hB8 hn8 hx hNx
   go_wp2
   go_loopw [26] (fun kk wr => ∃ k : Nat, kk = .int .i64 k ∧ k ≤ Nx ∧ Below w9.heap.size w9 wr) (fun kk _ => Nx - (intOf kk).toNat)
   case atStart => exact ⟨0, rfl, Nat.zero_le _, Below.refl _ _⟩
   case round =>
     obtain ⟨k, rfl, hk, hbr⟩ := hrel
     by_cases hkN : k < Nx
     · have hkI : ((k : Int) < (Nx : Int)) := by omega
       obtain ⟨x, hx⟩ : ∃ x, (timesL v l t)[k]? = some x := ⟨(timesL v l t)[k]'(by rw [times_len hE'.out, hNl'.out]; exact hkN), List.getElem?_eq_getElem _⟩
       obtain ⟨y, hy⟩ : ∃ y, (pushT v l t i b)[k]? = some y := ⟨(pushT v l t i b)[k]'(by rw [hXl'.out, hNl'.out]; exact hkN), List.getElem?_eq_getElem _⟩
       obtain ⟨m1, m2, m3, m4⟩ := hXk'.out k x y hx hy
       have hbx := time_bd hE'.out x (List.mem_of_getElem? hx)
       have hby : 0 ≤ y.be ∧ y.be ≤ 2000000 := by omega
       have htr := hts9.out.on hbr
       have hxr := hx9.out.on hbr
       obtain ⟨ga, oa, rfl, -, c0, c1, c2⟩ := Tms.at htr hx
       obtain ⟨gx, ox, rfl, -, d0, d1, d2⟩ := Tms.at hxr hy
       have hbr' := Lib.hid hbr
       have g5 : decide (y.be - x.be < 0) = false := by rw [decide_eq_false_iff_not]; omega
       have g6 : decide (b < y.be - x.be) = false := by rw [decide_eq_false_iff_not]; omega
       clear hx hy htr hxr hbr
       rcases Nat.lt_trichotomy k i with h | h | h
       · obtain rfl := m1 h
         have g3 : decide ((k : Int) < (i : Int)) = true := by rw [decide_eq_true_iff]; omega
         have n3 : decide (k < i) = true := by rw [decide_eq_true_iff]; omega
         have g4 : ((k : Int) == (i : Int)) = false := by simp; omega
         have n4 : (k == i) = false := by simp; omega
         clear m1 m2 m3 m4 h
         go_upto_region 20 with fail
         go_quiet (fail)
         have hb1 := Lib.hid (Place.below_drewN hbr'.out nq)
         have c0' : (wr.drewN nq).cell? ⟨ga, oa + k * 3, none⟩ = some (.int .i64 y.ar) := c0
         have c1' : (wr.drewN nq).cell? ⟨ga, oa + k * 3 + 1, none⟩ = some (.int .i64 y.be) := c1
         have c2' : (wr.drewN nq).cell? ⟨ga, oa + k * 3 + 2, none⟩ = some (.int .i64 y.lv) := c2
         have d0' : (wr.drewN nq).cell? ⟨gx, ox + k * 3, none⟩ = some (.int .i64 y.ar) := d0
         have d1' : (wr.drewN nq).cell? ⟨gx, ox + k * 3 + 1, none⟩ = some (.int .i64 y.be) := d1
         have d2' : (wr.drewN nq).cell? ⟨gx, ox + k * 3 + 2, none⟩ = some (.int .i64 y.lv) := d2
         clear hbr' c0 c1 c2 d0 d1 d2
         generalize wr.drewN nq = wq at *
         go_upto_region 21 with fail
         go_quiet (fail)
         have hb2 := Lib.hid (Place.below_drewN hb1.out nq)
         clear hb1
         go_wp2
         go_roundw
         case rel => exact ⟨k + 1, by go_num, hkN, hb2.out⟩
         case measure => simp [intOf]; omega
       · have g8 := m2 h
         have g3 : decide ((k : Int) < (i : Int)) = false := by rw [decide_eq_false_iff_not]; omega
         have n3 : decide (k < i) = false := by rw [decide_eq_false_iff_not]; omega
         have g4 : ((k : Int) == (i : Int)) = true := by simp; omega
         have n4 : (k == i) = true := by simp; omega
         have g7 : (y.be - x.be != b) = false := by simp [g8]
         clear m1 m2 m3 m4 g8 h
         go_upto_region 20 with fail
         go_quiet (fail)
         have hb1 := Lib.hid (Place.below_drewN hbr'.out nq)
         have c0' : (wr.drewN nq).cell? ⟨ga, oa + k * 3, none⟩ = some (.int .i64 x.ar) := c0
         have c1' : (wr.drewN nq).cell? ⟨ga, oa + k * 3 + 1, none⟩ = some (.int .i64 x.be) := c1
         have c2' : (wr.drewN nq).cell? ⟨ga, oa + k * 3 + 2, none⟩ = some (.int .i64 x.lv) := c2
         have d0' : (wr.drewN nq).cell? ⟨gx, ox + k * 3, none⟩ = some (.int .i64 y.ar) := d0
         have d1' : (wr.drewN nq).cell? ⟨gx, ox + k * 3 + 1, none⟩ = some (.int .i64 y.be) := d1
         have d2' : (wr.drewN nq).cell? ⟨gx, ox + k * 3 + 2, none⟩ = some (.int .i64 y.lv) := d2
         clear hbr' c0 c1 c2 d0 d1 d2
         generalize wr.drewN nq = wq at *
         go_upto_region 21 with fail
         go_quiet (fail)
         have hb2 := Lib.hid (Place.below_drewN hb1.out nq)
         clear hb1
         go_wp2
         go_roundw
         case rel => exact ⟨k + 1, by go_num, hkN, hb2.out⟩
         case measure => simp [intOf]; omega
       · have g3 : decide ((k : Int) < (i : Int)) = false := by rw [decide_eq_false_iff_not]; omega
         have n3 : decide (k < i) = false := by rw [decide_eq_false_iff_not]; omega
         have g4 : ((k : Int) == (i : Int)) = false := by simp; omega
         have n4 : (k == i) = false := by simp; omega
         clear m1 m2 m3 m4 h
         go_upto_region 20 with fail
         go_quiet (fail)
         have hb1 := Lib.hid (Place.below_drewN hbr'.out nq)
         have c0' : (wr.drewN nq).cell? ⟨ga, oa + k * 3, none⟩ = some (.int .i64 x.ar) := c0
         have c1' : (wr.drewN nq).cell? ⟨ga, oa + k * 3 + 1, none⟩ = some (.int .i64 x.be) := c1
         have c2' : (wr.drewN nq).cell? ⟨ga, oa + k * 3 + 2, none⟩ = some (.int .i64 x.lv) := c2
         have d0' : (wr.drewN nq).cell? ⟨gx, ox + k * 3, none⟩ = some (.int .i64 y.ar) := d0
         have d1' : (wr.drewN nq).cell? ⟨gx, ox + k * 3 + 1, none⟩ = some (.int .i64 y.be) := d1
         have d2' : (wr.drewN nq).cell? ⟨gx, ox + k * 3 + 2, none⟩ = some (.int .i64 y.lv) := d2
         clear hbr' c0 c1 c2 d0 d1 d2
         generalize wr.drewN nq = wq at *
         go_upto_region 21 with fail
         go_quiet (fail)
         have hb2 := Lib.hid (Place.below_drewN hb1.out nq)
         clear hb1
         go_wp2
         go_roundw
         case rel => exact ⟨k + 1, by go_num, hkN, hb2.out⟩
         case measure => simp [intOf]; omega
     · obtain rfl : k = Nx := by omega
       have hBr := Lib.hid (hB9.out.trans (hbr.mono hB9.out.size))
       clear hbr
       go_wp2
       go_ret
       exact ⟨rfl, hBr.out⟩

end Go.Proofs.Ytfoflfeaegfnnaa.Slack

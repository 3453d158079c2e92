import Derived.Test.YteclpblfleakhaaGreatDoorPkWindowFuncs2

namespace Go.Proofs.YteclpblfleakhaaGreatDoor.When
open Go.RowKit Go.Sort Go.Proofs.YteclpblfleakhaaGreatDoor.Mem Go.Proofs.YteclpblfleakhaaGreatDoor.Route
set_option linter.unusedVariables false
theorem ret_ti2 {u : Value} {a b c d : Int} (h : a = b) (h2 : c = d) : Ending.returned (.tuple #[u, .int .i64 a, .int .i64 c]) = .returned (.tuple #[u, .int .i64 b, .int .i64 d]) := by rw [h, h2]
def xsK (t : List Rq) (l : List (Int × Int)) (k : Nat) : List Vi := visL t (l.take k)
theorem xsK_snoc {t : List Rq} {l : List (Int × Int)} {k : Nat} {s : Int × Int} (h : l[k]? = some s) : xsK t l (k + 1) = xsK t l k ++ [visV t s] := by
 unfold xsK visL
 rw [show l.take (k + 1) = l.take k ++ [s] by rw [List.take_add_one, h]; rfl, List.map_append]
 rfl
theorem xsK_all (t : List Rq) (l : List (Int × Int)) : xsK t l l.length = visL t l := by unfold xsK; rw [List.take_length]
theorem allB_snoc (a : Sp) (xs : List Vi) (x : Vi) : allB a (xs ++ [x]) = (allB a xs && inB (endA a xs) x) := by
 unfold allB
 rw [stepsL_append, List.all_append]
 simp [stepsL, good]
theorem allB_bad {a : Sp} {t : List Rq} {l : List (Int × Int)} {k : Nat} {s : Int × Int} (h : l[k]? = some s) (hb : inB (endA a (xsK t l k)) (visV t s) = false) : allB a (visL t l) = false := by
 have hl : l = l.take k ++ s :: l.drop (k + 1) := by
  obtain ⟨hk, rfl⟩ := List.getElem?_eq_some_iff.1 h
  rw [← List.drop_eq_getElem_cons hk, List.take_append_drop]
 have e : visL t l = xsK t l k ++ (visV t s :: visL t (l.drop (k + 1))) := by
  conv => lhs; rw [hl]
  unfold visL xsK
  rw [List.map_append]
  rfl
 rw [e]
 unfold allB
 rw [stepsL_append, List.all_append, stepsL, List.all_cons]
 show (_ && (inB _ _ && _)) = false
 rw [hb]
 simp
theorem tmsK_snoc (a : Sp) (xs : List Vi) (x : Vi) : tmsL (stepsL a (xs ++ [x])) = tmsL (stepsL a xs) ++ [tmV (endA a xs) x] := by
 rw [stepsL_append, stepsL, stepsL, tmsL_snoc]
theorem late_no {v : Vh} {l : List (Int × Int)} {t : List Rq} (h : allB (sp0 v) (visL t l) = false) : okT v l t = false := by unfold okT; rw [h]; rfl
theorem late_end {v : Vh} {l : List (Int × Int)} {t : List Rq} (h : ¬ endT v l t ≤ v.en) : okT v l t = false := by unfold okT; rw [decide_eq_false h, Bool.and_false]
theorem ok_end {v : Vh} {l : List (Int × Int)} {t : List Rq} (h : allB (sp0 v) (visL t l) = true) (h2 : endT v l t ≤ v.en) : okT v l t = true := by unfold okT; rw [h, decide_eq_true h2]; rfl
theorem owns_lt {W : World} {base size k : Nat} {e : TypeId} {v : Value} {xs : List Value} (h : W.ownsRow base e size v k xs) : ∀ r, v.ownBlock = some r → r < W.heap.size := by
 obtain ⟨hl, ⟨rfl, h0⟩ | ⟨g, cap, cur, rfl, hb, hg, hc1, hc2, hs, ht⟩⟩ := h
 · intro r e; cases e
 · intro r e
   simp only [Value.ownBlock, Option.some.injEq] at e
   have := (Array.getElem?_eq_some_iff.1 hg).1
   omega
theorem At.offRow {A A' : World} {g : Nat} {t : TypeId} {cs : Array Value} {row : Option Nat} (h : At A g t cs) (hg : A.grownBy A' row) (hr : ∀ r, row = some r → g ≠ r) : At A' g t cs := (hg.block g h.inside (fun e => hr g e.symm rfl)).trans h
theorem distCall (ax ay bx by_ D : Int) (hD : Place.distV (ax, ay) (bx, by_) = D) (w : World) : Calls Tryz.prog 66 #[.agg #[.int .i64 ax, .int .i64 ay], .agg #[.int .i64 bx, .int .i64 by_]] w fun e w' => e = .returned (.int .i64 D) ∧ Below w.heap.size w w' := by
 rw [← hD]; exact Place.refDist_any _ _ _ _ _
theorem waitCall (e l t B : Int) (b : Bool) (hB : Window.waitV e l t = B) (hb : Window.waitB e l t = b) (w : World) : Calls Tryz.prog 67 #[.agg #[.int .i64 e, .int .i64 l], .int .i64 t] w fun r w' => r = .returned (.tuple #[.int .i64 B, .bool b]) ∧ Below w.heap.size w w' := by
 rw [← hB, ← hb]; exact Window.refWait_any _ _ _ _
set_option maxRecDepth 100000 in
set_option maxHeartbeats 700000 in
theorem refTimes_any (v : Vh) (vl vt : Value) (l : List (Int × Int)) (t : List Rq) (hl : l.length ≤ 1000000) (hnum : Nums l) (w : World) (hL : Row w.heap.size w vl l) (hT : Rqs w.heap.size w vt t) :
 Calls Tryz.prog 46 #[.agg #[.int .i64 v.hx, .int .i64 v.hy, .int .i64 v.cp, .int .i64 v.st, .int .i64 v.en], vl, vt] w fun e w' =>
  (∃ u, e = .returned (.tuple #[u, .int .i64 (homeT v l t), .int .i64 (errT v l t)]) ∧ Tms w'.heap.size w' u (timesL v l t)) ∧ Below w.heap.size w w' := by
 obtain ⟨i0, hi, hz0, hz1, hz2⟩ := info_parts info_time
 have hb0 : Below w.heap.size w (w.alloc (.cells #[.int .i64 v.hx, .int .i64 v.hy, .int .i64 v.cp, .int .i64 v.st, .int .i64 v.en] 32)) := (Below.refl _ _).alloc (Nat.le_refl _) _
 have hc := refWrong_any v vl vt l t hl hnum _ (hL.on hb0) (hT.on hb0)
 have hP := At.new w 32 #[.int .i64 v.hx, .int .i64 v.hy, .int .i64 v.cp, .int .i64 v.st, .int .i64 v.en]
 obtain ⟨xl, Nl, capl, rfl, hNl, hl0, hlc1, hlc2⟩ := hL.opened
 obtain ⟨xt, Nt, capt, rfl, hNt0, htc1, htc2, ht0⟩ := hT.opened
 have hNt := Lib.hid hNt0
 unfold maxLen at hlc2 htc2
 have hL' := Lib.hid hL
 have hT' := Lib.hid hT
 have hNl1 : Nl ≤ 1000000 := by rw [hNl.out] at hl; exact hl
 clear hL hT hNt0 ht0 hl hnum
 obtain ⟨E, hE⟩ : ∃ E, wrongV v l t = E := ⟨_, rfl⟩
 rw [hE] at hc
 have hE' := Lib.hid hE
 clear hE
 go_enter Tryz.func46, Tryz.ntmps46
 go_wp2_with fail
 refine hc.mono ?_
 clear hc
 rintro e w1 ⟨rfl, hb1⟩
 have hB := hb0.trans (hb1.mono hb0.size)
 have hP1 := hP.keep hb1 hP.inside
 clear hb0 hb1 hP
 cases he0 : (E == 0)
 · have he1 : (E != 0) = true := by simpa using he0
   have hw : Hid (errT v l t = E ∧ errT v l t ≠ 0) := Lib.hid (by
    have h1 : wrongV v l t ≠ 0 := by rw [hE'.out]; simpa using he0
    rw [errT_wrong h1, hE'.out]
    exact ⟨rfl, by simpa using he0⟩)
   go_wp2
   refine bodyPost_ret (v := .tuple #[.slice none 0 0, .int .i64 0, .int .i64 E]) (by simp [results, Tryz.results46, go_sem]) rfl ?_
   exact ⟨⟨_, ret_ti2 (homeT_no hw.out.2).symm hw.out.1.symm, by rw [timesL_no hw.out.2]; exact RowB.nil _ _ _⟩, hB⟩
 · have he1 : (E != 0) = false := by simpa using he0
   have hz : wrongV v l t = 0 := by rw [hE'.out]; simpa using he0
   obtain ⟨hk1, hk2, hk3, hk4⟩ := times_ok hz
   obtain ⟨hq1, hq2, hq3, hq4⟩ := wrong_bits v l t hz
   have hmild := mild_of hz
   have hstn : Hid (∀ k, k ≤ Nl → 0 ≤ (endA (sp0 v) (xsK t l k)).now ∧ (endA (sp0 v) (xsK t l k)).now ≤ 1049576) := Lib.hid (fun k hk => by
    refine (tms_ok (xsK t l k) (sp0 v) hk4.1 (by show v.st ≤ _; omega) (fun x hx => ?_)).2
    obtain ⟨s, _, rfl⟩ := List.mem_map.1 hx
    exact vis_sv hq2 s)
   have hqs : Hid (∀ (k : Nat) (s : Int × Int), l[k]? = some s → ∃ q, t[s.1.toNat]? = some q ∧ 0 ≤ s.1 ∧ s.1 < (Nt : Int) ∧ (visV t s).sv = q.sv ∧ 0 ≤ q.sv ∧ q.sv ≤ 1000) := Lib.hid (fun k s hs => by
    obtain ⟨x, hx⟩ := hq4 s (List.mem_of_getElem? hs)
    obtain ⟨q, hq, h1, h2, h3, _⟩ := visO_some hx
    have := chk_sv (hq2 q (List.mem_of_getElem? hq))
    exact ⟨q, hq, h1, by rw [← hNt.out]; exact h2, by rw [(vis_some hx).1]; exact h3, this.1, this.2⟩)
   have p0 := hP1.cell 0
   have p1 := hP1.cell 1
   have p3 := hP1.cell 3
   have hPs := hP1.inside
   simp at p0 p1 p3
   have hz' := Lib.hid hz
   have hP' := Lib.hid hP1
   have hB' := Lib.hid hB
   have hk2' := Lib.hid hk2
   clear hz hk1 hk2 hk3 hk4 hq1 hq2 hq3 hq4 hmild hP1 hB
   go_wp2_with fail
   go_region
   have hA1 : At ((w1.alloc (.cells #[.int .i64 v.hx, .int .i64 v.hy] 30)).drew) w1.heap.size 30 #[.int .i64 v.hx, .int .i64 v.hy] := (At.new _ _ _).drew
   have hBd : Below w.heap.size w ((w1.alloc (.cells #[.int .i64 v.hx, .int .i64 v.hy] 30)).drew) := Below.drew (hB'.out.alloc hB'.out.size _)
   have hPd : At ((w1.alloc (.cells #[.int .i64 v.hx, .int .i64 v.hy] 30)).drew) w.heap.size 32 #[.int .i64 v.hx, .int .i64 v.hy, .int .i64 v.cp, .int .i64 v.st, .int .i64 v.en] := (hP'.out.alloc _).drew
   have hsd : w1.heap.size < ((w1.alloc (.cells #[.int .i64 v.hx, .int .i64 v.hy] 30)).drew).heap.size := by simp
   generalize (w1.alloc (.cells #[.int .i64 v.hx, .int .i64 v.hy] 30)).drew = w2 at *
   have hwn : w.heap.size < w1.heap.size := hPs
   obtain ⟨n1, hn1⟩ : ∃ n, w1.heap.size = n := ⟨_, rfl⟩
   rw [hn1] at hA1 hsd hwn ⊢
   clear p0 p1 p3 hPs hP' hB' hn1
   go_wp2
   go_loopw [10, 12, 13] (fun u nw i wr => ∃ (k : Nat) (x : Option Addr) (cap : Nat), i = .int .i64 k ∧ k ≤ Nl ∧ u = .slice x k cap ∧ nw = .int .i64 (endA (sp0 v) (xsK t l k)).now ∧ wr.ownsRow (n1 + 1) 152 3 (.slice x k cap) k (flatT (tmsL (stepsL (sp0 v) (xsK t l k)))) ∧
    At wr n1 30 #[.int .i64 (endA (sp0 v) (xsK t l k)).px, .int .i64 (endA (sp0 v) (xsK t l k)).py] ∧ At wr w.heap.size 32 #[.int .i64 v.hx, .int .i64 v.hy, .int .i64 v.cp, .int .i64 v.st, .int .i64 v.en] ∧ allB (sp0 v) (xsK t l k) = true ∧ Below w.heap.size w wr) (fun _ _ i _ => Nl - (intOf i).toNat)
   case atStart => exact ⟨0, none, 0, rfl, Nat.zero_le _, rfl, rfl, World.ownsRow_nil _ _ _ _, hA1, hPd, rfl, hBd⟩
   case round =>
    obtain ⟨k, x, cap, rfl, hk, rfl, rfl, hown, hA, hP, hall, hbw⟩ := hrel
    clear hA1 hPd hBd hsd
    have hAs := hA.inside
    have hPs := hP.inside
    obtain ⟨hn0, hn2⟩ := hstn.out k hk
    have hall' := Lib.hid hall
    clear hall
    by_cases hlt : k < Nl
    · obtain ⟨⟨s1, s2⟩, hs⟩ : ∃ s, l[k]? = some s := ⟨l[k]'(by rw [hNl.out]; exact hlt), List.getElem?_eq_getElem _⟩
      obtain ⟨q, hq, hr1, hr2, hr3, hr4, hr5⟩ := hqs.out k (s1, s2) hs
      obtain ⟨r, rfl⟩ : ∃ r : Nat, s1 = r := ⟨s1.toNat, by simp only at hr1; omega⟩
      simp only [Int.toNat_natCast] at hq hr1 hr2
      have hrN : r < Nt := by omega
      obtain ⟨g, o, rfl, hg, c0, c1⟩ := Row.stop (hL'.out.keep hbw (Nat.le_refl _)) hs
      obtain ⟨gt, ot, rfl, hgt, d0, d1, d2, d3, d4, d5, d6, d7, d8, d9⟩ := Rqs.at (hT'.out.keep hbw (Nat.le_refl _)) hq
      simp only at c0 c1
      clear d0 d1 d2 d3 d4 d5 d6 d7 d8
      have hX1 := Lib.hid (xsK_snoc (t := t) hs)
      have hX2 : Hid (inB (endA (sp0 v) (xsK t l k)) (visV t ((r : Int), s2)) = false → okT v l t = false) := Lib.hid (fun h => late_no (allB_bad hs h))
      obtain ⟨S, hS⟩ : ∃ S, endA (sp0 v) (xsK t l k) = S := ⟨_, rfl⟩
      rw [hS] at hA hn0 hn2 hX2 ⊢
      obtain ⟨u, hu⟩ : ∃ u, visV t ((r : Int), s2) = u := ⟨_, rfl⟩
      have hcP := refPlace_any r s2 _ t wr ((hT'.out.keep hbw (Nat.le_refl _)).more hbw.size)
      rw [hu] at hcP hX1 hX2 hr3
      have hS' := Lib.hid hS
      have hu' := Lib.hid hu
      have hown' := Lib.hid hown
      have hsv1 : 0 ≤ q.sv := hr4
      have hsv2 : q.sv ≤ 1000 := hr5
      have hsvE := Lib.hid hr3
      have hgr : g < wr.heap.size := by have := hbw.size; omega
      have hgtr : gt < wr.heap.size := by have := hbw.size; omega
      have hAw := Lib.hid hA
      have hPw := Lib.hid hP
      have hbw' := Lib.hid hbw
      clear hs hq hr1 hr2 hr3 hr4 hr5 hS hu hown hA hP hbw
      go_wp2_with fail
      refine hcP.mono ?_
      clear hcP
      rintro e w3 ⟨rfl, hb3⟩
      -- Window
      have hp4 : At (w3.alloc (.cells #[.int .i64 u.px, .int .i64 u.py] 30)) w3.heap.size 30 #[.int .i64 u.px, .int .i64 u.py] := At.new _ _ _
      have hbr4 : Below wr.heap.size wr (w3.alloc (.cells #[.int .i64 u.px, .int .i64 u.py] 30)) := hb3.alloc hb3.size _
      have hcW := refWindow_any r s2 _ t _ ((hT'.out.keep (hbw'.out.trans (hbr4.mono hbw'.out.size)) (Nat.le_refl _)).more (Nat.le_trans hbw'.out.size hbr4.size))
      rw [hu'.out] at hcW
      have c0' := (hb3.cell (p := ⟨g, o + k * 2, none⟩) hgr).trans c0
      have c1' := (hb3.cell (p := ⟨g, o + k * 2 + 1, none⟩) hgr).trans c1
      have hgr3 : g < w3.heap.size := Nat.lt_of_lt_of_le hgr hb3.size
      have hs34 : wr.heap.size ≤ w3.heap.size := hb3.size
      go_wp2_with fail
      refine hcW.mono ?_
      clear hcW c0' c1'
      rintro e w5 ⟨rfl, hb5⟩
      have hbr5 := hbr4.trans (hb5.mono hbr4.size)
      have hp5 := hp4.keep hb5 hp4.inside
      have hA5 := hAw.out.keep hbr5 hAs
      have hs5 : w3.heap.size < w5.heap.size := hp5.inside
      have hsn5 : n1 < w5.heap.size := hA5.inside
      have a0 := hA5.cell 0
      have a1 := hA5.cell 1
      have q0 := hp5.cell 0
      have q1 := hp5.cell 1
      simp at a0 a1 q0 q1
      clear hb5 hbr4 hp4
      -- Dist
      obtain ⟨D, hD⟩ : ∃ D, Place.distV (S.px, S.py) (u.px, u.py) = D := ⟨_, rfl⟩
      have hDb := Order.distV_bd (S.px, S.py) (u.px, u.py)
      rw [hD] at hDb
      obtain ⟨hDb1, hDb2⟩ := hDb
      have hd6 : At (w5.alloc (.cells #[.int .i64 u.we, .int .i64 u.wl] 41)) w5.heap.size 41 #[.int .i64 u.we, .int .i64 u.wl] := At.new _ _ _
      have hcD := distCall S.px S.py u.px u.py D hD (w5.alloc (.cells #[.int .i64 u.we, .int .i64 u.wl] 41))
      have hbr6 : Below wr.heap.size wr (w5.alloc (.cells #[.int .i64 u.we, .int .i64 u.wl] 41)) := hbr5.alloc hbr5.size _
      have hp6 := hp5.alloc (.cells #[.int .i64 u.we, .int .i64 u.wl] 41)
      have hD' := Lib.hid hD
      clear hD
      go_wp2_with fail
      refine hcD.mono ?_
      clear hcD a0 a1 q0 q1
      rintro e w7 ⟨rfl, hb7⟩
      have hbr7 := hbr6.trans (hb7.mono hbr6.size)
      have hd7 := hd6.keep hb7 hd6.inside
      have hp7 := hp6.keep hb7 hp6.inside
      have hs7 : w5.heap.size < w7.heap.size := hd7.inside
      have e0 := hd7.cell 0
      have e1 := hd7.cell 1
      simp at e0 e1
      clear hb7 hbr6 hd6 hp6 hbr5 hp5 hA5
      -- Wait
      obtain ⟨B, hBv⟩ : ∃ B, Window.waitV u.we u.wl (S.now + D) = B := ⟨_, rfl⟩
      obtain ⟨b, hbv⟩ : ∃ b, Window.waitB u.we u.wl (S.now + D) = b := ⟨_, rfl⟩
      have hBb := wait_bd u.we u.wl (S.now + D)
      rw [hBv] at hBb
      obtain ⟨hBb1, hBb2⟩ := hBb
      have hcA := waitCall u.we u.wl (S.now + D) B b hBv hbv (w7.alloc (.cells #[.int .i64 (S.now + D), .int .i64 0, .int .i64 0] 152))
      have hx8 : At (w7.alloc (.cells #[.int .i64 (S.now + D), .int .i64 0, .int .i64 0] 152)) w7.heap.size 152 #[.int .i64 (S.now + D), .int .i64 0, .int .i64 0] := At.new _ _ _
      have hbr8 : Below wr.heap.size wr (w7.alloc (.cells #[.int .i64 (S.now + D), .int .i64 0, .int .i64 0] 152)) := hbr7.alloc hbr7.size _
      have hp8 := hp7.alloc (.cells #[.int .i64 (S.now + D), .int .i64 0, .int .i64 0] 152)
      have hI : Hid (inB S u = b ∧ tmV S u = ⟨S.now + D, B, B + q.sv⟩ ∧ goV S u = ⟨B + q.sv, u.px, u.py⟩) := Lib.hid (by
       unfold inB tmV goV beV arV
       rw [hD'.out, hBv, hbv, hsvE.out]
       exact ⟨rfl, rfl, rfl⟩)
      clear hBv hbv
      go_wp2_with fail
      refine hcA.mono ?_
      clear hcA e0 e1
      rintro e w9 ⟨rfl, hb9⟩
      have hbr9 := hbr8.trans (hb9.mono hbr8.size)
      have hx9 := hx8.keep hb9 hx8.inside
      have hp9 := hp8.keep hb9 hp8.inside
      have hxs : w7.heap.size < w9.heap.size := hx9.inside
      clear hb9 hbr8 hx8 hp8 hbr7 hd7 hp7
      cases b
      · have hw := Lib.hid (errT_late hz'.out (hX2.out hI.out.1))
        have hBf := Lib.hid (hbw'.out.trans (hbr9.mono hbw'.out.size))
        clear hx9 hp9 hbr9
        go_wp2
        refine bodyPost_ret (v := .tuple #[.slice none 0 0, .int .i64 0, .int .i64 9]) (by simp [results, Tryz.results46, go_sem]) rfl ?_
        exact ⟨⟨_, ret_ti2 (homeT_no (by rw [hw.out]; omega)).symm hw.out.symm, by rw [timesL_no (by rw [hw.out]; omega)]; exact RowB.nil _ _ _⟩, hBf.out⟩
      · have f0 := hx9.cell 0
        have f1 := hx9.cell 1
        have f2 := hx9.cell 2
        have ff := hx9.free
        simp at f0 f1 f2
        have c0' := (hbr9.cell (p := ⟨g, o + k * 2, none⟩) hgr).trans c0
        have dd := (hbr9.cell (p := ⟨gt, ot + r * 10 + 9, none⟩) hgtr).trans d9
        have hg9 : g < w9.heap.size := Nat.lt_of_lt_of_le hgr hbr9.size
        have hgt9 : gt < w9.heap.size := Nat.lt_of_lt_of_le hgtr hbr9.size
        have hwr9 : wr.heap.size ≤ w9.heap.size := hbr9.size
        have hgx : g < w7.heap.size := by omega
        have hgtx : gt < w7.heap.size := by omega
        have hbrX : Below wr.heap.size wr ((w9.setCell ⟨w7.heap.size, 1, none⟩ (.int .i64 B)).setCell ⟨w7.heap.size, 2, none⟩ (.int .i64 (B + q.sv))) := (hbr9.setCell (by simp; omega) _).setCell (by simp; omega) _
        have hownX := Lib.hid (owns_below hown'.out hbrX)
        have hAX := Lib.hid (hAw.out.keep hbrX hAs)
        have hPX := Lib.hid (hPw.out.keep hbrX hPs)
        have hBX := Lib.hid (hbw'.out.trans (hbrX.mono hbw'.out.size))
        have hxX : At ((w9.setCell ⟨w7.heap.size, 1, none⟩ (.int .i64 B)).setCell ⟨w7.heap.size, 2, none⟩ (.int .i64 (B + q.sv))) w7.heap.size 152 #[.int .i64 (S.now + D), .int .i64 B, .int .i64 (B + q.sv)] := by
         simpa using (hx9.put 1 (.int .i64 B)).put 2 (.int .i64 (B + q.sv))
        have hpX := Lib.hid ((hp9.far (b := w7.heap.size) (by omega) 1 (.int .i64 B)).far (b := w7.heap.size) (by omega) 2 (.int .i64 (B + q.sv)))
        have hxX' := Lib.hid hxX
        have hlo := Lib.hid (owns_lt hown'.out)
        have hro := Lib.hid (owns_row hown'.out)
        have hkl : k ≤ 1000000 := by omega
        have hEnd : Hid (endA (sp0 v) (xsK t l (k + 1)) = ⟨B + q.sv, u.px, u.py⟩) := Lib.hid (by rw [hX1.out, endA_snoc, hS'.out, hI.out.2.2])
        have hTm : Hid (flatT (tmsL (stepsL (sp0 v) (xsK t l (k + 1)))) = flatT (tmsL (stepsL (sp0 v) (xsK t l k))) ++ [.int .i64 (S.now + D), .int .i64 B, .int .i64 (B + q.sv)]) := Lib.hid (by rw [hX1.out, tmsK_snoc, flatT_snoc, hS'.out, hI.out.2.1])
        have hAl : Hid (allB (sp0 v) (xsK t l (k + 1)) = true) := Lib.hid (by rw [hX1.out, allB_snoc, hall'.out, hS'.out, hI.out.1]; rfl)
        have hw3w : w3.heap.size < w9.heap.size := by omega
        clear hx9 hp9 hbr9 c0 c1 d9 hxX hbrX
        go_upto_region 18 with (at_builtin; refine wpList_append_own _ rfl _ _ 120 rfl (n1 + 1) 152 i0 (.agg #[.int .i64 0, .int .i64 0, .int .i64 0]) 3 24 Tryz.underlying120 hi hz0 hz1 hz2 rfl (by decide) _ _ _ rfl (hownX.out.alloc _) ⟨w9.heap.size, 0, none⟩ 1 1 [.int .i64 (S.now + D), .int .i64 B, .int .i64 (B + q.sv)] rfl rfl (World.news_of_block (cs := #[.int .i64 (S.now + D), .int .i64 B, .int .i64 (B + q.sv)]) (t := 152) (fr := (0, 0)) (by simpa using heap_alloc_new ((w9.setCell ⟨w7.heap.size, 1, none⟩ (.int .i64 B)).setCell ⟨w7.heap.size, 2, none⟩ (.int .i64 (B + q.sv))) _)) (by simp [Value.oneCell']) (by unfold maxLen; omega) (by omega) (by simp; omega) ?_; intro v7 w10 hown7 hgrow7 hnil7; obtain ⟨x7, c7, rfl, _, _⟩ := owns_slice hown7)
        have hAt := At.offRow (hAX.out.alloc _) hgrow7 (fun r e => by have := hro.out r e; omega)
        have hPt := Lib.hid (At.offRow (hPX.out.alloc _) hgrow7 (fun r e => by have := hro.out r e; omega))
        have hxt := At.offRow (hxX'.out.alloc _) hgrow7 (fun r e => by have := hlo.out r e; omega)
        have hpt := At.offRow (hpX.out.alloc _) hgrow7 (fun r e => by have := hlo.out r e; omega)
        have hBt := Lib.hid ((hBX.out.alloc hBX.out.size _).grown hgrow7 (Nat.le_trans hBX.out.size (by simp)) (fun r e => by have := hro.out r e; omega))
        have z0 := hpt.cell 0
        have z1 := hpt.cell 1
        have z2 := hxt.cell 2
        have y0 := hAt.cell 0
        have y1 := hAt.cell 1
        have yf := hAt.free
        simp at z0 z1 z2 y0 y1
        have hsz1 : n1 < w10.heap.size := hAt.inside
        have hAt' := Lib.hid hAt
        have hown7' := Lib.hid hown7
        clear hAt hxt hpt hgrow7 hown7 hnil7 f0 f1 f2 ff
        go_region
        go_wp2
        go_roundw
        case rel =>
         refine ⟨k + 1, x7, c7, by go_num, hlt, rfl, ?_, ?_, ?_, ?_, hAl.out, ?_⟩
         · rw [hEnd.out]
         · rw [hTm.out]
           exact owns_far (owns_far hown7'.out (by omega) _ _) (by omega) _ _
         · rw [hEnd.out]
           exact put2 hAt'.out
         · exact (hPt.out.far (by omega) _ _).far (by omega) _ _
         · exact Below.drew ((hBt.out.setCell (by simp; omega) _).setCell (by simp; omega) _)
        case measure => simp [intOf]; omega
    · obtain rfl : k = Nl := by omega
      have hXa : Hid (xsK t l k = visL t l) := Lib.hid (by rw [← hNl.out]; exact xsK_all t l)
      obtain ⟨S, hS⟩ : ∃ S, endA (sp0 v) (xsK t l k) = S := ⟨_, rfl⟩
      rw [hS] at hA hn0 hn2 ⊢
      obtain ⟨D, hD⟩ : ∃ D, Place.distV (S.px, S.py) (v.hx, v.hy) = D := ⟨_, rfl⟩
      have hDb := Order.distV_bd (S.px, S.py) (v.hx, v.hy)
      rw [hD] at hDb
      obtain ⟨hDb1, hDb2⟩ := hDb
      have hcD := distCall S.px S.py v.hx v.hy D hD wr
      have hEn : Hid (endT v l t = S.now + D) := Lib.hid (by
       unfold endT arV
       rw [← hXa.out, hS]
       show S.now + Place.distV (S.px, S.py) (v.hx, v.hy) = _
       rw [hD])
      have hall2 : Hid (allB (sp0 v) (visL t l) = true) := Lib.hid (by rw [← hXa.out]; exact hall'.out)
      have hrow : Hid (Tms wr.heap.size wr (.slice x k cap) (rowT v l t)) := Lib.hid (by
       unfold rowT
       rw [← hXa.out]
       refine Tms.of_owns hown ?_ (Nat.le_refl _)
       unfold tmsL
       rw [List.length_map, stepsL_length]
       unfold xsK visL
       rw [List.length_map, List.length_take, hNl.out]
       omega)
      have a0 := hA.cell 0
      have a1 := hA.cell 1
      have p0 := hP.cell 0
      have p1 := hP.cell 1
      have p4 := hP.cell 4
      simp at a0 a1 p0 p1 p4
      have hbw' := Lib.hid hbw
      clear hS hD hA hown hP hbw
      go_wp2_with fail
      refine hcD.mono ?_
      clear hcD a0 a1 p0 p1
      rintro e w3 ⟨rfl, hb3⟩
      have p4' := (hb3.cell (p := ⟨w.heap.size, 4, none⟩) hPs).trans p4
      have hs3 : w.heap.size < w3.heap.size := Nat.lt_of_lt_of_le hPs hb3.size
      have hB3 := Lib.hid (hbw'.out.trans (hb3.mono hbw'.out.size))
      have hrow3 : Hid (Tms w3.heap.size w3 (.slice x k cap) (rowT v l t)) := Lib.hid (hrow.out.on hb3)
      clear hb3 p4
      by_cases hle : S.now + D ≤ v.en
      · have hw := Lib.hid (errT_ok hz'.out (ok_end hall2.out (by rw [hEn.out]; exact hle)))
        go_wp2
        refine bodyPost_ret (v := .tuple #[.slice x k cap, .int .i64 (S.now + D), .int .i64 0]) (by simp [results, Tryz.results46, go_sem]) rfl ?_
        exact ⟨⟨_, ret_ti2 (by rw [homeT_ok hw.out, hEn.out]) hw.out.symm, by rw [timesL_ok hw.out]; exact hrow3.out⟩, hB3.out⟩
      · have hw := Lib.hid (errT_late hz'.out (late_end (by rw [hEn.out]; exact hle)))
        go_wp2
        refine bodyPost_ret (v := .tuple #[.slice none 0 0, .int .i64 0, .int .i64 9]) (by simp [results, Tryz.results46, go_sem]) rfl ?_
        exact ⟨⟨_, ret_ti2 (homeT_no (by rw [hw.out]; omega)).symm hw.out.symm, by rw [timesL_no (by rw [hw.out]; omega)]; exact RowB.nil _ _ _⟩, hB3.out⟩
end Go.Proofs.YteclpblfleakhaaGreatDoor.When

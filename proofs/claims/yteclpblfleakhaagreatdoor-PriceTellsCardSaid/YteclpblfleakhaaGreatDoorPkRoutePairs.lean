import Derived.Test.YteclpblfleakhaaGreatDoorPkRouteRefChk

namespace Go.Proofs.YteclpblfleakhaaGreatDoor.Route
open Go.RowKit Go.Proofs.YteclpblfleakhaaGreatDoor.Mem
set_option linter.unusedVariables false
def cntF (l : List (Int × Int)) (r : Int) : Option Int := if (ofR r l).length = 0 then none else some ((ofR r l).length : Nat)
theorem cntF_get (l : List (Int × Int)) (r : Int) : (cntF l r).getD 0 = ((ofR r l).length : Nat) := by
 unfold cntF
 split
 · rename_i h; rw [h]; rfl
 · rfl
theorem cntF_nil (r : Int) : cntF [] r = none := by simp [cntF, ofR]
theorem cntF_next {l : List (Int × Int)} {k : Nat} {s : Int × Int} (h : l[k]? = some s) (q : Int) : cntF (l.take (k + 1)) q = (fun q => if q = s.1 then some (((ofR s.1 (l.take k)).length : Int) + 1) else cntF (l.take k) q) q := by
 rw [take_get h]
 unfold cntF
 simp only
 rw [ofR_append]
 by_cases hq : q = s.1
 · subst hq
   rw [ofR_cons_same rfl, List.length_append, if_neg (by simp), if_pos rfl]
   simp [ofR]
 · rw [ofR_cons_other (fun e => hq e.symm), if_neg hq, show ofR q [] = [] from rfl, List.append_nil]
theorem scan_bad {l : List (Int × Int)} {k : Nat} {s : Int × Int} (h : l[k]? = some s) (hs : scan [] l = scan (l.take k) (l.drop k)) (hb : okS (l.take k) s = false) : scan [] l = l.take k := by
 obtain ⟨hlt, hx⟩ := List.getElem?_eq_some_iff.1 h
 rw [hs, List.drop_eq_getElem_cons hlt, hx, scan, hb]
 rfl
theorem scan_good {l : List (Int × Int)} {k : Nat} {s : Int × Int} (h : l[k]? = some s) (hs : scan [] l = scan (l.take k) (l.drop k)) (hb : okS (l.take k) s = true) : scan [] l = scan (l.take (k + 1)) (l.drop (k + 1)) := by
 obtain ⟨hlt, hx⟩ := List.getElem?_eq_some_iff.1 h
 rw [hs, List.drop_eq_getElem_cons hlt, hx, scan, hb, take_get h]
 rfl
theorem drops_yes {l : List (Int × Int)} {k : Nat} {s : Int × Int} (h : l[k]? = some s) (e : s.2 = 1) : dropsN (l.take (k + 1)) = dropsN (l.take k) + 1 := by rw [take_get h]; simp [dropsN, e]
theorem drops_no {l : List (Int × Int)} {k : Nat} {s : Int × Int} (h : l[k]? = some s) (e : s.2 ≠ 1) : dropsN (l.take (k + 1)) = dropsN (l.take k) := by rw [take_get h]; simp [dropsN, e]
theorem drops_take (l : List (Int × Int)) (k : Nat) : dropsN (l.take k) ≤ k := by
 have : dropsN (l.take k) ≤ (l.take k).length := List.length_filter_le ..
 rw [List.length_take] at this
 omega
theorem of_take (r : Int) (l : List (Int × Int)) (k : Nat) : (ofR r (l.take k)).length ≤ k := by
 have : (ofR r (l.take k)).length ≤ (l.take k).length := List.length_filter_le ..
 rw [List.length_take] at this
 omega
theorem ret_vi {v : Value} {a b : Int} (h : a = b) : Ending.returned (.tuple #[v, .int .i64 a]) = .returned (.tuple #[v, .int .i64 b]) := by rw [h]
theorem wpList_lookup_want {P : Program} (w : World) {ops : Array Oper} {rest : List Oper} {o : Oper} {a : Act} {Q : Exit → Act → World → Prop}
 (hw : Region.wanted o (yielded ops a.tmps) = true) (m x : Operand) (t : TypeId) (hop : o.op = Op.lookup t m x false)
 (k e : TypeId) (q : IntKind) (K : Maps.Keyed P k) (ht : P.underlying t = some (.map k e)) (he : P.underlying e = some (.int q)) (hz : (zeroValue e).run P w = .ok (.int q 0) w) (b n : Nat) (D : DataW Unit)
 (hm : a.eval m = .map (some b)) (hown : w.ownsMap P k (plainElem P e) b n D) (key : Value) (kl : Lit) (hx : a.eval x = key) (hkey : keyOf P k key = some kl)
 (hK : ∀ c : Int, D.atKey kl (.lit (.int q 0)) = .lit (.int q c) → (Lit.int q c).wf = true → wpList P ops Q rest (a.put o.dst (.int q c)) w) :
 wpList P ops Q (o :: rest) a w := by
 refine BigFrame.wpList_want hw fun K' hK' => ?_
 obtain ⟨c, hrun, hat, hwc⟩ := hown.lookup_int K ht he hz hkey
 unfold Oper.wp
 simp [execOp, hop, hm, hx, hrun, Result.andThen]
 exact hK' _ _ (hK c hat hwc)
theorem owns_ne {W : World} {base : Nat} {e : TypeId} {size n : Nat} {v : Value} {xs : List Value} (h : W.ownsRow base e size v n xs) {g : Nat} (hg : g < base) : v.ownBlock = none ∨ v.ownBlock ≠ some g := by
 cases hv : v.ownBlock with
 | none => exact .inl rfl
 | some k => exact .inr (fun e => by have h1 := owns_row h _ hv; cases e; omega)
set_option maxRecDepth 100000 in
set_option maxHeartbeats 4000000 in
theorem pairs_any (v : Value) (l : List (Int × Int)) (hl : l.length ≤ 1000000) (hnum : Nums l) (w : World) (h : Row w.heap.size w v l) :
 Calls Tryz.prog 122 #[v] w fun e w' => (∃ v', e = .returned (.tuple #[v', .int .i64 (dropsN (scan [] l))]) ∧ Ints w'.heap.size w' v' (picksL (scan [] l))) ∧ Below w.heap.size w w' := by
 obtain ⟨i0, hi, hz0, hz1, hz2⟩ := info_parts info_int
 obtain ⟨x, N, cap, rfl, hN', h0', hc1, hc2⟩ := h.opened
 have h' := Lib.hid h
 have hnum' := Lib.hid hnum
 rw [hN'.out] at hl
 clear h hnum
 have hmm := @run_makeMap Tryz.prog
 have hM0 : MapAt (w.alloc (.map #[] 0)) w.heap.size 0 (cntF (l.take 0)) := (MapAt.made w).funs (fun r => by rw [List.take_zero, cntF_nil])
 have hb0 : Below w.heap.size w (w.alloc (.map #[] 0)) := (Below.refl _ _).alloc (Nat.le_refl _) _
 obtain ⟨b, hb1, hb2⟩ : ∃ b, w.heap.size ≤ b ∧ b ≤ w.heap.size := ⟨_, Nat.le_refl _, Nat.le_refl _⟩
 have hbe := Lib.hid (show w.heap.size = b by omega)
 go_enter Tryz.func122, Tryz.ntmps122
 go_wp2_with fail
 go_step3
 go_wp2_with fail
 go_step3
 rw [hbe.out] at hM0
 simp only [hbe.out]
 generalize (w.alloc (.map #[] 0)) = w1 at *
 have hw1 := hb0.size
 go_wp2
 go_loopw [2, 3, 10] (fun u d i wr => ∃ k dn : Nat, k ≤ N ∧ i = .int .i64 k ∧ d = .int .i64 dn ∧ Hid (dn = dropsN (l.take k)) ∧ wr.ownsRow (b + 1) 3 1 u (picksL (l.take k)).length (flatI (picksL (l.take k))) ∧ MapAt wr b k (cntF (l.take k)) ∧ Hid (scan [] l = scan (l.take k) (l.drop k)) ∧ Below w.heap.size w wr)
  (fun _ _ i _ => N - (intOf i).toNat)
 case atStart => exact ⟨0, 0, by omega, rfl, rfl, Lib.hid (by simp [dropsN]), by simpa [picksL, flatI] using World.ownsRow_nil _ _ _ _, hM0, Lib.hid (by simp), hb0⟩
 case round =>
  obtain ⟨k, dn, hk, rfl, rfl, hdn, hown, hmap, hsc, hbw⟩ := hrel
  clear hM0 hb0
  have hdl : dn ≤ k := by rw [hdn.out]; exact drops_take l k
  have hsz := hbw.size
  have hbi := hmap.inside
  by_cases hlt : k < N
  · obtain ⟨⟨s1, s2⟩, hs, _⟩ := drop_get (l := l) (k := k) (by rw [hN'.out]; exact hlt)
    obtain ⟨g, o, rfl, hg, e1, e2⟩ := Row.stop h'.out hs
    have e1 := (hbw.cell (p := ⟨g, o + k * 2, none⟩) hg).trans e1
    have e2 := (hbw.cell (p := ⟨g, o + k * 2 + 1, none⟩) hg).trans e2
    simp at e1 e2
    have hI := (hnum'.out _ (List.mem_of_getElem? hs)).1
    have hkey := key_lit hI
    simp only at hkey
    obtain ⟨c, hc⟩ : ∃ c : Nat, (ofR s1 (l.take k)).length = c := ⟨_, rfl⟩
    have hck : c ≤ k := by rw [← hc]; exact of_take ..
    have hcc := Lib.hid hc
    have hbad := Lib.hid (scan_bad hs hsc.out)
    have hgood := Lib.hid (scan_good hs hsc.out)
    have hpy := Lib.hid (pick_yes hs)
    have hpn := Lib.hid (pick_no hs)
    have hdy := Lib.hid (drops_yes hs)
    have hdo := Lib.hid (drops_no hs)
    have hcn := Lib.hid (cntF_next hs)
    have hln := picks_take l k
    have hS := At.new wr 82 #[.int .i64 s1, .int .i64 s2]
    have hm1 := hmap.alloc (.cells #[.int .i64 s1, .int .i64 s2] 82)
    have ho1 := hown.alloc (.cells #[.int .i64 s1, .int .i64 s2] 82)
    have hB1 := hbw.alloc hbw.size (.cells #[.int .i64 s1, .int .i64 s2] 82)
    have hoq := Lib.hid (fun r e => (hown.lt r e).2)
    clear hs hc hown hmap hbw
    go_upto_region 5 with fail
    obtain ⟨q, hq⟩ : ∃ q, wr.heap.size = q := ⟨_, rfl⟩
    rw [hq] at hS hoq ⊢
    generalize (wr.alloc (.cells #[.int .i64 s1, .int .i64 s2] 82)) = w2 at *
    have hqb : b < q := by omega
    have hqi := hS.inside
    have a0 := hS.cell 0
    have a1 := hS.cell 1
    simp at a0 a1
    clear e1 e2 hq hmm
    generalize hP : picksL (l.take k) = P at *
    have hP' := Lib.hid hP
    clear hP
    have fin : Hid (scan [] l = l.take k → ∀ V, Ints V.heap.size V u2 P → Below w.heap.size w V → (∃ v', Ending.returned (.tuple #[u2, .int .i64 dn]) = .returned (.tuple #[v', .int .i64 (dropsN (scan [] l))]) ∧ Ints V.heap.size V v' (picksL (scan [] l))) ∧ Below w.heap.size w V) :=
     Lib.hid fun he V hV hBV => ⟨⟨_, ret_vi (by rw [he, hdn.out]), by rw [he, hP'.out]; exact hV⟩, hBV⟩
    cases c0 : decide (s1 < 0)
    case true =>
     have hF := Lib.hid (hbad.out (by simp at c0; simp [okS]; omega))
     have hPI := Lib.hid (Ints.of_owns (B := w2.heap.size) ho1 rfl (Nat.le_refl _))
     clear ho1 hm1
     go_wp2
     refine bodyPost_ret (v := .tuple #[_, .int .i64 _]) (by simp [results, Tryz.results122, go_sem]; exact ⟨rfl, rfl⟩) rfl ?_
     exact fin.out hF.out _ hPI.out hB1
    case false =>
    have hm1' := hm1
    obtain ⟨D, hom, hD⟩ := hm1'
    have hcD : D.atKey (.int .i64 s1) (.lit (.int .i64 0)) = .lit (.int .i64 (c : Int)) := by rw [(hD s1).2, cntF_get, hcc.out]
    have hcD' := Lib.hid hcD
    clear hD hcD
    cases c5 : (s2 == (c : Int))
    case false =>
     have c5' : (s2 != (c : Int)) = true := by simpa using c5
     have hF := Lib.hid (hbad.out (by simp at c5; simp [okS, hcc.out]; intro _; exact c5))
     have hPI := Lib.hid (Ints.of_owns (B := w2.heap.size) ho1 rfl (Nat.le_refl _))
     clear ho1 hm1
     go_wp2_with (at_lookup; refine wpList_lookup_want _ (by simp [Region.wanted, yielded]) _ _ 76 rfl 3 3 .i64 (Maps.int_keyed Tryz.underlying3) Tryz.underlying76 Tryz.underlying3 (Tryz.zeroValue3 _) b k D rfl hom _ _ rfl hkey ?_; intro c' hat hwc; obtain rfl : (c : Int) = c' := lit_inj (hcD'.out.symm.trans hat); clear hat hwc)
     refine bodyPost_ret (v := .tuple #[_, .int .i64 _]) (by simp [results, Tryz.results122, go_sem]; exact ⟨rfl, rfl⟩) rfl ?_
     exact fin.out hF.out _ hPI.out hB1
    case true =>
    have c5' : (s2 != (c : Int)) = false := by simpa using c5
    have hsn := Lib.hid (hgood.out (by simp at c0 c5; simp [okS, hcc.out]; exact ⟨by omega, c5⟩))
    have hec := Lib.hid (show s2 = (c : Int) by simpa using c5)
    go_upto_region 6 with (at_lookup; refine wpList_lookup_want _ (by simp [Region.wanted, yielded]) _ _ 76 rfl 3 3 .i64 (Maps.int_keyed Tryz.underlying3) Tryz.underlying76 Tryz.underlying3 (Tryz.zeroValue3 _) b k D rfl hom _ _ rfl hkey ?_; intro c' hat hwc; obtain rfl : (c : Int) = c' := lit_inj (hcD'.out.symm.trans hat); clear hat hwc)
    clear hom hcD' c5 D
    cases c6 : (s2 == 0)
    case true =>
     have hp := Lib.hid (hpy.out (by simpa using c6))
     have hd := Lib.hid (hdo.out (by simp at c6 ⊢; omega))
     clear hpy hpn hdy hdo hbad hgood
     go_upto_region 10 with (at_builtin; refine wpList_append_own _ rfl _ _ 105 rfl (b + 1) 3 i0 (.int .i64 0) 1 8 Tryz.underlying105 hi hz0 hz1 hz2 rfl (by decide) _ _ _ rfl (ho1.alloc _) ⟨w2.heap.size, 0, none⟩ 1 1 [.int .i64 s1] rfl rfl (cell_one_new _ _ _) (by simp [Value.oneCell']) (by unfold maxLen; omega) (by omega) (by simp; omega) ?_; intro v7 w7 hown7 hgrow7 hnil7)
     have hm7 : MapAt w7 b k (cntF (l.take k)) := (hm1.alloc _).same (hgrow7.block b (by simp; have := hm1.inside; omega) (fun e => by have := owns_row ho1 _ e.symm; omega))
     have hB7 := (hB1.alloc hB1.size _).grown hgrow7 (by simp; have := hB1.size; omega) (fun r e => by have := owns_row ho1 _ e; omega)
     have hS7 : At w7 q 82 #[.int .i64 s1, .int .i64 s2] := (hgrow7.block q (by simp; omega) (fun e => by have := hoq.out _ e.symm; omega)).trans (hS.alloc _)
     clear hgrow7 hnil7 ho1 hm1 hB1 hS a0 a1
     have a0 := hS7.cell 0
     have a1 := hS7.cell 1
     simp at a0 a1
     obtain ⟨D, hom, hD⟩ := hm7
     have hcD : D.atKey (.int .i64 s1) (.lit (.int .i64 0)) = .lit (.int .i64 (c : Int)) := by rw [(hD s1).2, cntF_get, hcc.out]
     have hcD' := Lib.hid hcD
     have hD' := Lib.hid hD
     clear hD hcD
     go_wp2_with (first | (at_lookup; refine wpList_lookup_own_int _ rfl _ _ 76 rfl 3 3 .i64 (Maps.int_keyed Tryz.underlying3) Tryz.underlying76 Tryz.underlying3 (Tryz.zeroValue3 _) b k D rfl hom _ _ rfl hkey ?_; intro c' hat hwc; obtain rfl : (c : Int) = c' := lit_inj (hcD'.out.symm.trans hat); clear hat hwc) | (at_mapUpdate; refine wpList_mapUpdate_own _ rfl _ _ _ 76 rfl 3 3 (Maps.int_keyed Tryz.underlying3) Tryz.underlying76 _ b k D rfl hom (by unfold maxLen; omega) _ _ _ rfl rfl hkey _ [] (plainElem_int Tryz.underlying3 (show (Lit.int .i64 ((c : Int) + 1)).wf = true from I64.wf ⟨by omega, by omega⟩)) ?_; intro w8 hom8 hgrow8))
     have hm8 : MapAt w8 b (k + 1) (cntF (l.take (k + 1))) := MapAt.funs ⟨_, hom8, put_tells hom.isMap hD'.out trivial⟩ (fun q => by rw [hcn.out q, hcc.out])
     have ho8 := World.ownsRow.kept hown7 hgrow8 (owns_ne hown7 (Nat.lt_succ_self b))
     have hB8 := hB7.grown hgrow8 (by have := hB7.size; omega) (fun r e => by cases e; exact hb1)
     go_roundw
     case rel => exact ⟨k + 1, dn, by omega, by go_num, rfl, Lib.hid (hdn.out.trans hd.out.symm), by rw [hp.out, flatI_snoc, List.length_append]; exact ho8, hm8, hsn, hB8⟩
     case measure => simp [intOf]; omega
    case false =>
    have hp := Lib.hid (hpn.out (by simpa using c6))
    cases c7 : (s2 == 1)
    case true =>
     have hd := Lib.hid (hdy.out (by simpa using c7))
     clear hpy hpn hdy hdo hbad hgood
     obtain ⟨D, hom, hD⟩ := hm1
     have hcD : D.atKey (.int .i64 s1) (.lit (.int .i64 0)) = .lit (.int .i64 (c : Int)) := by rw [(hD s1).2, cntF_get, hcc.out]
     have hcD' := Lib.hid hcD
     have hD' := Lib.hid hD
     clear hD hcD
     go_wp2_with (first | (at_lookup; refine wpList_lookup_own_int _ rfl _ _ 76 rfl 3 3 .i64 (Maps.int_keyed Tryz.underlying3) Tryz.underlying76 Tryz.underlying3 (Tryz.zeroValue3 _) b k D rfl hom _ _ rfl hkey ?_; intro c' hat hwc; obtain rfl : (c : Int) = c' := lit_inj (hcD'.out.symm.trans hat); clear hat hwc) | (at_mapUpdate; refine wpList_mapUpdate_own _ rfl _ _ _ 76 rfl 3 3 (Maps.int_keyed Tryz.underlying3) Tryz.underlying76 _ b k D rfl hom (by unfold maxLen; omega) _ _ _ rfl rfl hkey _ [] (plainElem_int Tryz.underlying3 (show (Lit.int .i64 ((c : Int) + 1)).wf = true from I64.wf ⟨by omega, by omega⟩)) ?_; intro w8 hom8 hgrow8))
     have hm8 : MapAt w8 b (k + 1) (cntF (l.take (k + 1))) := MapAt.funs ⟨_, hom8, put_tells hom.isMap hD'.out trivial⟩ (fun q => by rw [hcn.out q, hcc.out])
     have ho8 := World.ownsRow.kept ho1 hgrow8 (owns_ne ho1 (Nat.lt_succ_self b))
     have hB8 := hB1.grown hgrow8 (by have := hB1.size; omega) (fun r e => by cases e; exact hb1)
     go_roundw
     case rel => exact ⟨k + 1, dn + 1, by omega, by go_num, by go_num, Lib.hid (by rw [hd.out, hdn.out]), by rw [hp.out]; exact ho8, hm8, hsn, hB8⟩
     case measure => simp [intOf]; omega
    case false =>
     have hd := Lib.hid (hdo.out (by simpa using c7))
     clear hpy hpn hdy hdo hbad hgood
     obtain ⟨D, hom, hD⟩ := hm1
     have hcD : D.atKey (.int .i64 s1) (.lit (.int .i64 0)) = .lit (.int .i64 (c : Int)) := by rw [(hD s1).2, cntF_get, hcc.out]
     have hcD' := Lib.hid hcD
     have hD' := Lib.hid hD
     clear hD hcD
     go_wp2_with (first | (at_lookup; refine wpList_lookup_own_int _ rfl _ _ 76 rfl 3 3 .i64 (Maps.int_keyed Tryz.underlying3) Tryz.underlying76 Tryz.underlying3 (Tryz.zeroValue3 _) b k D rfl hom _ _ rfl hkey ?_; intro c' hat hwc; obtain rfl : (c : Int) = c' := lit_inj (hcD'.out.symm.trans hat); clear hat hwc) | (at_mapUpdate; refine wpList_mapUpdate_own _ rfl _ _ _ 76 rfl 3 3 (Maps.int_keyed Tryz.underlying3) Tryz.underlying76 _ b k D rfl hom (by unfold maxLen; omega) _ _ _ rfl rfl hkey _ [] (plainElem_int Tryz.underlying3 (show (Lit.int .i64 ((c : Int) + 1)).wf = true from I64.wf ⟨by omega, by omega⟩)) ?_; intro w8 hom8 hgrow8))
     have hm8 : MapAt w8 b (k + 1) (cntF (l.take (k + 1))) := MapAt.funs ⟨_, hom8, put_tells hom.isMap hD'.out trivial⟩ (fun q => by rw [hcn.out q, hcc.out])
     have ho8 := World.ownsRow.kept ho1 hgrow8 (owns_ne ho1 (Nat.lt_succ_self b))
     have hB8 := hB1.grown hgrow8 (by have := hB1.size; omega) (fun r e => by cases e; exact hb1)
     go_roundw
     case rel => exact ⟨k + 1, dn, by omega, by go_num, rfl, Lib.hid (hdn.out.trans hd.out.symm), by rw [hp.out]; exact ho8, hm8, hsn, hB8⟩
     case measure => simp [intOf]; omega
  · obtain rfl : k = N := by omega
    have he : l.take k = l := by rw [← hN'.out, List.take_length]
    have hse := Lib.hid (show scan [] l = l by rw [hsc.out, he, List.drop_eq_nil_of_le (by rw [hN'.out]; omega), scan])
    have hde := Lib.hid (show dn = dropsN l by rw [hdn.out, he])
    rw [he] at hown
    have hPI := Lib.hid (Ints.of_owns (B := wr.heap.size) hown rfl (Nat.le_refl _))
    clear hown hmap he hmm
    go_wp2
    simp only [Exit.noGoto_ret]
    refine bodyPost_ret (v := .tuple #[_, .int .i64 _]) (by simp [results, Tryz.results122, go_sem]; exact ⟨rfl, rfl⟩) rfl ?_
    exact ⟨⟨_, ret_vi (by rw [hse.out, hde.out]), by rw [hse.out]; exact hPI.out⟩, hbw⟩
theorem scan_drops_le (l : List (Int × Int)) : dropsN (scan [] l) ≤ l.length := by
 obtain ⟨_, t, ht⟩ := scan_steps (rest := l) Steps.nil
 rw [List.nil_append] at ht
 have h1 : dropsN (scan [] l) ≤ (scan [] l).length := List.length_filter_le ..
 have h2 := congrArg List.length ht
 rw [List.length_append] at h2
 omega
theorem reqs_long {l : List (Int × Int)} (h : 16 < l.length) : reqsL l = [] := reqs_bad (by rw [chk_long h]; omega)
theorem ret_vv {v : Value} {a b : Int} (h : a = b) : Ending.returned (.tuple #[v, .int .i64 a]) = .returned (.tuple #[v, .int .i64 b]) := by rw [h]
set_option maxRecDepth 100000 in
set_option maxHeartbeats 2000000 in
theorem requests_any (v : Value) (l : List (Int × Int)) (hl : l.length ≤ 1000000) (hnum : Nums l) (w : World) (h : Row w.heap.size w v l) :
 Calls Tryz.prog 109 #[v] w fun e w' => (∃ v', e = .returned (.tuple #[v', .int .i64 (checkV l)]) ∧ Ints w'.heap.size w' v' (reqsL l)) ∧ Below w.heap.size w w' := by
 have hpr := pairs_any v l hl hnum w h
 have hdl := scan_drops_le l
 obtain ⟨x, N, cap, rfl, hN', h0', hc1, hc2⟩ := h.opened
 rw [hN'.out] at hl hdl
 clear h hnum
 by_cases h16 : 16 < N
 · have hv := Lib.hid (chk_long (l := l) (by rw [hN'.out]; exact h16))
   have hr := Lib.hid (reqs_long (l := l) (by rw [hN'.out]; exact h16))
   clear hpr
   go_enter Tryz.func109, Tryz.ntmps109
   go_wp2
   refine bodyPost_ret (v := .tuple #[.slice none 0 0, .int .i64 _]) (by simp [results, Tryz.results109, go_sem]; exact rfl) rfl ?_
   exact ⟨⟨_, ret_vv hv.out.symm, by rw [hr.out]; exact RowB.nil _ _ _⟩, Below.refl _ _⟩
 · obtain ⟨hs1, hs2⟩ := scan_isR l
   rw [hN'.out] at hs1
   obtain ⟨d, hd⟩ : ∃ d, dropsN (scan [] l) = d := ⟨_, rfl⟩
   rw [hd] at hpr hdl hs1
   have hs1' := Lib.hid hs1
   have hs2' := Lib.hid hs2
   clear hd hs1 hs2
   cases c1 : ((d : Int) * 2 == N)
   · have hb : isR l = false := by
      cases hr : isR l
      · rfl
      · have := hs1'.out.2 hr
        simp at c1; omega
     have hv := Lib.hid (chk_bad (l := l) (by rw [hN'.out]; omega) hb)
     have hr := Lib.hid (reqs_bad (l := l) (by rw [hv.out]; omega))
     have c1' : ((d : Int) * 2 != N) = true := by simpa using c1
     clear hb
     go_enter Tryz.func109, Tryz.ntmps109
     go_wp2_with fail
     refine hpr.mono ?_
     rintro e w1 ⟨⟨v1, rfl, hv1⟩, hb1⟩
     go_wp2
     refine bodyPost_ret (v := .tuple #[.slice none 0 0, .int .i64 _]) (by simp [results, Tryz.results109, go_sem]; exact rfl) rfl ?_
     exact ⟨⟨_, ret_vv hv.out.symm, by rw [hr.out]; exact RowB.nil _ _ _⟩, hb1⟩
   · have hb : isR l = true := hs1'.out.1 (by simp at c1; omega)
     have hv := Lib.hid (chk_good (l := l) (by rw [hN'.out]; omega) hb)
     have hr := Lib.hid (show reqsL l = picksL (scan [] l) from (reqs_good (l := l) hv.out).trans (by rw [hs2'.out hb]))
     have c1' : ((d : Int) * 2 != N) = false := by simpa using c1
     clear hb
     go_enter Tryz.func109, Tryz.ntmps109
     go_wp2_with fail
     refine hpr.mono ?_
     rintro e w1 ⟨⟨v1, rfl, hv1⟩, hb1⟩
     go_wp2
     refine bodyPost_ret (v := .tuple #[_, .int .i64 _]) (by simp [results, Tryz.results109, go_sem]; exact ⟨rfl, rfl⟩) rfl ?_
     exact ⟨⟨_, ret_vv hv.out.symm, by rw [hr.out]; exact hv1⟩, hb1⟩
theorem Check_any (v : Value) (l : List (Int × Int)) (hl : l.length ≤ 1000000) (hnum : Nums l) (w : World) (h : Row w.heap.size w v l) :
 Calls Tryz.prog 96 #[v] w fun e w' => e = .returned (.int .i64 (checkV l)) ∧ Below w.heap.size w w' := by
 have hpr := requests_any v l hl hnum w h
 obtain ⟨x, N, cap, rfl, hN', h0', hc1, hc2⟩ := h.opened
 clear h hnum
 go_enter Tryz.func96, Tryz.ntmps96
 go_wp2_with fail
 refine hpr.mono ?_
 rintro e w1 ⟨⟨v1, rfl, hv1⟩, hb1⟩
 go_wp2
 go_ret
 exact ⟨rfl, hb1⟩
theorem Requests_any (v : Value) (l : List (Int × Int)) (hl : l.length ≤ 1000000) (hnum : Nums l) (w : World) (h : Row w.heap.size w v l) :
 Calls Tryz.prog 115 #[v] w fun e w' => (∃ v', e = .returned v' ∧ Ints w'.heap.size w' v' (reqsL l)) ∧ Below w.heap.size w w' := by
 have hpr := requests_any v l hl hnum w h
 obtain ⟨x, N, cap, rfl, hN', h0', hc1, hc2⟩ := h.opened
 clear h hnum
 go_enter Tryz.func115, Tryz.ntmps115
 go_wp2_with fail
 refine hpr.mono ?_
 rintro e w1 ⟨⟨v1, rfl, hv1⟩, hb1⟩
 go_wp2
 go_ret
 exact ⟨⟨_, rfl, hv1⟩, hb1⟩
end Go.Proofs.YteclpblfleakhaaGreatDoor.Route
namespace Go.Proofs.YteclpblfleakhaaGreatDoor.When
open Go.RowKit Go.Sort Go.Proofs.YteclpblfleakhaaGreatDoor.Mem Go.Proofs.YteclpblfleakhaaGreatDoor.Route Go.Proofs.YteclpblfleakhaaGreatDoor.Place Go.Proofs.YteclpblfleakhaaGreatDoor.Window Go.Proofs.YteclpblfleakhaaGreatDoor.Order
set_option linter.unusedVariables false
theorem res_tm {fn : Func} {p c : Tmp} (h : fn.results = #[.cell p 152, .tmp c]) {tmps : Array Value} {w : World} {g : Nat} {x0 x1 x2 b : Value} (hp : tmps.getD p undef = .pointer (some ⟨g, 0, none⟩)) (hc : tmps.getD c undef = b)
 (c0 : w.cell? ⟨g, 0, none⟩ = some x0) (c1 : w.cell? ⟨g, 1, none⟩ = some x1) (c2 : w.cell? ⟨g, 2, none⟩ = some x2) : (results fn tmps).run Tryz.prog w = .ok (.tuple #[.agg #[x0, x1, x2], b]) w := by
 have hp' : tmps[p]?.getD undef = .pointer (some ⟨g, 0, none⟩) := by simpa using hp
 have hc' : tmps[c]?.getD undef = b := by simpa using hc
 simp only [results, h]
 go_simp
theorem ret_tm {a0 a1 a2 b0 b1 b2 : Int} {c d : Bool} (h0 : a0 = b0) (h1 : a1 = b1) (h2 : a2 = b2) (h : c = d) :
 Ending.returned (.tuple #[.agg #[.int .i64 a0, .int .i64 a1, .int .i64 a2], .bool c]) = .returned (.tuple #[.agg #[.int .i64 b0, .int .i64 b1, .int .i64 b2], .bool d]) := by rw [h0, h1, h2, h]
theorem grown_set {w w' : World} {g : Nat} (h : w.grownBy w' (some g)) (i : Nat) (v : Value) : w.grownBy (w'.setCell ⟨g, i, none⟩ v) (some g) :=
 ⟨h.os, h.tape, h.output, by simpa using h.size, fun k hk hne => (Below.heap_setCell _ _ _ _ (fun e => hne (by rw [e]))).trans (h.block k hk hne)⟩
theorem grown_below {w w' v : World} {g : Nat} (h : w.grownBy w' (some g)) (hb : Below w'.heap.size w' v) : w.grownBy v (some g) :=
 ⟨hb.os.trans h.os, hb.tape.trans h.tape, hb.output.trans h.output, Nat.le_trans h.size hb.size, fun k hk hne => (hb.block k (Nat.lt_of_lt_of_le hk h.size)).trans (h.block k hk hne)⟩
theorem grown_new {w w' : World} {g : Nat} (h : w.grownBy w' (some g)) {k : Nat} (hk : w.heap.size ≤ k) (i : Nat) (v : Value) : w.grownBy (w'.setCell ⟨k, i, none⟩ v) (some g) :=
 ⟨h.os, h.tape, h.output, by simpa using h.size, fun j hj hne => (Below.heap_setCell _ _ _ _ (fun e => by have : j = k := e; omega)).trans (h.block j hj hne)⟩
set_option maxHeartbeats 2000000 in
theorem goOn_any (now ax ay o1 o2 px py we wl sv D A B : Int) (b : Bool) (g : Nat) (w : World) (hP : At w g 164 #[.int .i64 o1, .int .i64 o2, .int .i64 now, .int .i64 ax, .int .i64 ay])
 (hD : distV (ax, ay) (px, py) = D) (hA : now + D = A) (hb : waitB we wl A = b) (hB : waitV we wl A = B) (hA1 : 0 ≤ A) (hA2 : A ≤ 1000000000) (hB1 : 0 ≤ B + sv) (hB2 : B + sv ≤ 1000000000) :
 Calls Tryz.prog 82 #[.pointer (some ⟨g, 0, none⟩), .agg #[.int .i64 px, .int .i64 py, .int .i64 we, .int .i64 wl, .int .i64 sv]] w fun e w' => e = .returned (.tuple #[.agg #[.int .i64 A, .int .i64 B, .int .i64 (B + sv)], .bool b]) ∧
  At w' g 164 #[.int .i64 A, .int .i64 B, .int .i64 (B + sv), .int .i64 px, .int .i64 py] ∧ w.grownBy w' (some g) := by
 have hg := hP.inside
 obtain ⟨w0, hw0⟩ : ∃ w0, (w.alloc (.cells #[.int .i64 px, .int .i64 py, .int .i64 we, .int .i64 wl, .int .i64 sv] 189)).alloc (.cells #[.int .i64 0, .int .i64 0, .int .i64 0] 152) = w0 := ⟨_, rfl⟩
 have hP0 : At w0 g 164 #[.int .i64 o1, .int .i64 o2, .int .i64 now, .int .i64 ax, .int .i64 ay] := by rw [← hw0]; exact (hP.alloc _).alloc _
 have hX0 : At w0 w.heap.size 189 #[.int .i64 px, .int .i64 py, .int .i64 we, .int .i64 wl, .int .i64 sv] := by rw [← hw0]; exact (At.new _ _ _).alloc _
 have hR0 : At w0 (w.heap.size + 1) 152 #[.int .i64 0, .int .i64 0, .int .i64 0] := by rw [← hw0]; exact At.new_ _ _ _ (by simp)
 have hb0 : Below w.heap.size w w0 := by rw [← hw0]; exact ((Below.refl _ _).alloc (Nat.le_refl _) _).alloc (by simp) _
 have cD : ∀ w, Calls Tryz.prog 99 #[.agg #[.int .i64 ax, .int .i64 ay], .agg #[.int .i64 px, .int .i64 py]] w fun e w' => e = .returned (.int .i64 D) ∧ Below w.heap.size w w' := fun w => by rw [← hD]; exact Dist_any _ _ _ _ w
 have cW : ∀ w, Calls Tryz.prog 100 #[.agg #[.int .i64 we, .int .i64 wl], .int .i64 A] w fun e w' => e = .returned (.tuple #[.int .i64 B, .bool b]) ∧ Below w.heap.size w w' := fun w => by rw [← hB, ← hb]; exact Wait_any _ _ _ w
 have hw0' := Lib.hid hw0
 have hA' := Lib.hid hA
 have hA3 : 0 ≤ now + D := by omega
 have hA4 : now + D ≤ 1000000000 := by omega
 clear hP hD hb hB hw0 hA
 go_enter Tryz.func82, Tryz.ntmps82
 go_wp2_with fail
 rw [hw0'.out]
 have p2 := hP0.cell 2
 have p3 := hP0.cell 3
 have p4 := hP0.cell 4
 have x0 := hX0.cell 0
 have x1 := hX0.cell 1
 simp at p2 p3 p4 x0 x1
 have kp2 := cell_regrown p2
 have kp3 := cell_regrown p3
 have kp4 := cell_regrown p4
 have kx0 := cell_regrown x0
 have kx1 := cell_regrown x1
 have kD := fun d os => Calls.regrown_of (cD (grow (redrawn w0 d) os))
 clear cD
 refine wp_region_quiet_below (by kernel_rfl) (by kernel_rfl) ?_
 repeat (go_big_quiet_step (first | with_reducible exact kD _ _))
 refine wpQuiet_nil ?_
 intro _ hw'
 obtain ⟨⟨dq, osq⟩, hw''⟩ := hw'
 subst hw''
 have hP := hP0.keep (below_regrown w0 dq osq) hP0.inside
 have hX := hX0.keep (below_regrown w0 dq osq) hX0.inside
 have hR := hR0.keep (below_regrown w0 dq osq) hR0.inside
 have hE := hb0.trans ((below_regrown w0 dq osq).mono hb0.size)
 generalize grow (redrawn w0 dq) osq = w2 at *
 rw [hA'.out]
 clear kD kx0 kx1 kp2 kp3 kp4 x0 x1 p2 p3 p4 hX0 hR0 hP0 hb0 hw0' hA' hA3 hA4
 have x2 := hX.cell 2
 have x3 := hX.cell 3
 simp at x2 x3
 go_wp2_with fail
 refine (cW _).mono ?_
 rintro e w3 ⟨rfl, hb3⟩
 have hP3 := hP.keep hb3 hP.inside
 have hX3 := hX.keep hb3 hX.inside
 have hR3 := hR.keep hb3 hR.inside
 have hE3 := hE.trans (hb3.mono hE.size)
 have hg3 := hP3.inside
 have hs3 : w.heap.size + 1 < w3.heap.size := hR3.inside
 clear hb3 hP hX hR hE cW x2 x3
 have x0 := hX3.cell 0
 have x1 := hX3.cell 1
 have x4 := hX3.cell 4
 have xf := hX3.free
 have p0 := hP3.cell 0
 have p1 := hP3.cell 1
 have p2 := hP3.cell 2
 have p3 := hP3.cell 3
 have p4 := hP3.cell 4
 have pf := hP3.free
 have r0 := hR3.cell 0
 have r1 := hR3.cell 1
 have r2 := hR3.cell 2
 have rf := hR3.free
 simp at p0 p1 p2 p3 p4 x0 x1 x4 r0 r1 r2
 have hG : w.grownBy w3 (some g) := grown_below ⟨rfl, rfl, rfl, Nat.le_refl _, fun _ _ _ => rfl⟩ hE3
 have hPP := Lib.hid hP3
 have hGG := Lib.hid hG
 clear hP3 hX3 hR3 hE3 hG
 go_wp2
 refine bodyPost_ret (res_tm rfl rfl rfl (x0 := .int .i64 A) (x1 := .int .i64 B) (x2 := .int .i64 (B + sv)) (by go_simp) (by go_simp) (by go_simp)) rfl ?_
 refine ⟨ret_tm rfl rfl rfl rfl, ?_, ?_⟩
 · exact (((put5 hPP.out).far (by omega) _ _).far (by omega) _ _).far (by omega) _ _
 · exact grown_new (grown_new (grown_new (grown_set (grown_set (grown_set (grown_set (grown_set hGG.out _ _) _ _) _ _) _ _) _ _) (by simp) _ _) (by simp) _ _) (by simp) _ _
theorem wrong_v {v : Vh} {l : List (Int × Int)} {t : List Rq} (h : v.chk ≠ 0) : wrongV v l t = 2 := by simp [wrongV, h]
theorem wrong_q {v : Vh} {l : List (Int × Int)} {t : List Rq} {k : Nat} {q : Rq} (hk : t[k]? = some q) (h : q.chk ≠ 0) : wrongV v l t = 2 := by
 unfold wrongV
 split
 · rfl
 · rw [if_pos]
   rw [List.any_eq_true]
   exact ⟨q, List.mem_of_getElem? hk, by simpa using h⟩
theorem wrong_r {v : Vh} {l : List (Int × Int)} {t : List Rq} (h1 : v.chk = 0) (h2 : ∀ (k : Nat) (q : Rq), t[k]? = some q → q.chk = 0) (h3 : Route.checkV l ≠ 0) : wrongV v l t = 8 := by
 unfold wrongV
 rw [if_neg (by omega), if_neg, if_pos h3]
 rw [List.any_eq_true]
 rintro ⟨q, hq, h⟩
 obtain ⟨k, hk⟩ := List.getElem?_of_mem hq
 exact absurd (h2 k q hk) (by simpa using h)
theorem wrong_s {v : Vh} {l : List (Int × Int)} {t : List Rq} (h1 : v.chk = 0) (h2 : ∀ (k : Nat) (q : Rq), t[k]? = some q → q.chk = 0) {k : Nat} {s : Int × Int} (hk : l[k]? = some s) (h : visB t s = false) : wrongV v l t = 8 := by
 by_cases h3 : Route.checkV l ≠ 0
 · exact wrong_r h1 h2 h3
 unfold wrongV
 rw [if_neg (by omega), if_neg, if_neg h3, if_pos]
 · rw [List.any_eq_true]
   exact ⟨s, List.mem_of_getElem? hk, by rw [h]; rfl⟩
 rw [List.any_eq_true]
 rintro ⟨q, hq, h⟩
 obtain ⟨k, hk⟩ := List.getElem?_of_mem hq
 exact absurd (h2 k q hk) (by simpa using h)
theorem wrong_no {v : Vh} {l : List (Int × Int)} {t : List Rq} (h1 : v.chk = 0) (h2 : ∀ (k : Nat) (q : Rq), t[k]? = some q → q.chk = 0) (h3 : Route.checkV l = 0) (h4 : ∀ (k : Nat) (s : Int × Int), l[k]? = some s → visB t s = true) : wrongV v l t = 0 := by
 unfold wrongV
 rw [if_neg (by omega), if_neg, if_neg (by omega), if_neg]
 · rw [List.any_eq_true]
   rintro ⟨s, hs, h⟩
   obtain ⟨k, hk⟩ := List.getElem?_of_mem hs
   rw [h4 k s hk] at h
   cases h
 rw [List.any_eq_true]
 rintro ⟨q, hq, h⟩
 obtain ⟨k, hk⟩ := List.getElem?_of_mem hq
 exact absurd (h2 k q hk) (by simpa using h)
theorem reqCheck (q : Rq) (w : World) : Calls Tryz.prog 32 #[.agg #[.int .i64 q.fx, .int .i64 q.fy, .int .i64 q.tx, .int .i64 q.ty, .int .i64 q.pe, .int .i64 q.pl, .int .i64 q.de, .int .i64 q.dl, .int .i64 q.ld, .int .i64 q.sv]] w
 fun e w' => e = .returned (.int .i64 q.chk) ∧ Below w.heap.size w w' := Order.Check_any _ _ _ _ _ _ _ _ _ _ w
theorem vehCheck (v : Vh) (w : World) : Calls Tryz.prog 31 #[.agg #[.int .i64 v.hx, .int .i64 v.hy, .int .i64 v.cp, .int .i64 v.st, .int .i64 v.en]] w
 fun e w' => e = .returned (.int .i64 v.chk) ∧ Below w.heap.size w w' := Order.Vehicle_any _ _ _ _ _ w
set_option maxRecDepth 100000 in
set_option maxHeartbeats 4000000 in
theorem check_any (v : Vh) (vl vt : Value) (l : List (Int × Int)) (t : List Rq) (hl : l.length ≤ 1000000) (hnum : Nums l) (w : World) (hL : Row w.heap.size w vl l) (hT : Rqs w.heap.size w vt t) :
 Calls Tryz.prog 79 #[.agg #[.int .i64 v.hx, .int .i64 v.hy, .int .i64 v.cp, .int .i64 v.st, .int .i64 v.en], vl, vt] w fun e w' => e = .returned (.int .i64 (wrongV v l t)) ∧ Below w.heap.size w w' := by
 have hR := fun w' (hb : Below w.heap.size w w') => Route.Check_any vl l hl hnum w' (hL.on hb)
 have hv := vehCheck v
 have hP : At (w.alloc (.cells #[.int .i64 v.hx, .int .i64 v.hy, .int .i64 v.cp, .int .i64 v.st, .int .i64 v.en] 32)) w.heap.size 32 #[.int .i64 v.hx, .int .i64 v.hy, .int .i64 v.cp, .int .i64 v.st, .int .i64 v.en] := At.new _ _ _
 have hb0 : Below w.heap.size w (w.alloc (.cells #[.int .i64 v.hx, .int .i64 v.hy, .int .i64 v.cp, .int .i64 v.st, .int .i64 v.en] 32)) := (Below.refl _ _).alloc (Nat.le_refl _) _
 obtain ⟨xl, Nl, capl, rfl, hNl, hl0, hlc1, hlc2⟩ := hL.opened
 obtain ⟨xt, Nt, capt, rfl, hNt0, htc1, htc2, ht0⟩ := hT.opened
 have hNt := Lib.hid hNt0
 clear hNt0 ht0
 unfold maxLen at htc2 hlc2
 obtain ⟨E, hE⟩ : ∃ E, wrongV v l t = E := ⟨_, rfl⟩
 obtain ⟨C, hC⟩ : ∃ C, Route.checkV l = C := ⟨_, rfl⟩
 obtain ⟨V, hV⟩ : ∃ V, v.chk = V := ⟨_, rfl⟩
 rw [hE]
 simp only [hC] at hR
 simp only [hV] at hv
 have hL' := Lib.hid hL
 have hT' := Lib.hid hT
 have hE' := Lib.hid hE
 have hC' := Lib.hid hC
 have hV' := Lib.hid hV
 have hR' := Lib.hid hR
 clear hl hnum hL hT hE hC hV hR
 go_enter Tryz.func79, Tryz.ntmps79
 go_wp2_with fail
 refine (hv _).mono ?_
 rintro e w1 ⟨rfl, hb1⟩
 have hB := hb0.trans (hb1.mono hb0.size)
 clear hb0 hb1 hP hv
 cases hv0 : (V == 0)
 · have hv1 : (V != 0) = true := by simpa using hv0
   have hw := Lib.hid (wrong_v (l := l) (t := t) (show v.chk ≠ 0 by rw [hV'.out]; simpa using hv0))
   go_wp2
   go_ret
   exact ⟨Route.ret_int (by rw [← hE'.out, hw.out]), hB⟩
 · have hv1 : (V != 0) = false := by simpa using hv0
   have hz : Hid (v.chk = 0) := Lib.hid (by rw [hV'.out]; simpa using hv0)
   go_wp2
   go_loopw [18] (fun i wr => ∃ k : Nat, i = .int .i64 k ∧ k ≤ Nt ∧ (∀ (j : Nat) (q : Rq), j < k → t[j]? = some q → q.chk = 0) ∧ Below w.heap.size w wr) (fun i _ => Nt - (intOf i).toNat)
   case atStart => exact ⟨0, rfl, Nat.zero_le _, fun j q hj => by omega, hB⟩
   case round =>
    obtain ⟨k, rfl, hk, hall, hbw⟩ := hrel
    clear hB
    by_cases hlt : k < Nt
    · obtain ⟨q, hq⟩ : ∃ q, t[k]? = some q := ⟨t[k]'(by rw [hNt.out]; exact hlt), List.getElem?_eq_getElem _⟩
      obtain ⟨g, o, rfl, hg, c0, c1, c2, c3, c4, c5, c6, c7, c8, c9⟩ := Rqs.at (hT'.out.keep hbw (Nat.le_refl _)) hq
      have hq' := Lib.hid hq
      have hall' := Lib.hid hall
      clear hq hall
      have hbA := hbw.alloc hbw.size (.cells #[.int .i64 q.fx, .int .i64 q.fy, .int .i64 q.tx, .int .i64 q.ty, .int .i64 q.pe, .int .i64 q.pl, .int .i64 q.de, .int .i64 q.dl, .int .i64 q.ld, .int .i64 q.sv] 43)
      go_wp2_with fail
      refine (reqCheck q _).mono ?_
      rintro e w3 ⟨rfl, hb3⟩
      have hB3 := hbA.trans (hb3.mono hbA.size)
      clear hb3 hbA hbw c0 c1 c2 c3 c4 c5 c6 c7 c8 c9
      obtain ⟨Q, hQ⟩ : ∃ Q, q.chk = Q := ⟨_, rfl⟩
      rw [hQ]
      have hQ' := Lib.hid hQ
      clear hQ
      cases hq0 : (Q == 0)
      · have hq1 : (Q != 0) = true := by simpa using hq0
        have hw := Lib.hid (wrong_q (v := v) (l := l) hq'.out (by rw [hQ'.out]; simpa using hq0))
        go_wp2
        go_ret
        exact ⟨Route.ret_int (by rw [← hE'.out, hw.out]), hB3⟩
      · have hq1 : (Q != 0) = false := by simpa using hq0
        have hz2 : Hid (q.chk = 0) := Lib.hid (by rw [hQ'.out]; simpa using hq0)
        go_wp2
        go_roundw
        case rel =>
         refine ⟨k + 1, by go_num, hlt, fun j r hj hr => ?_, hB3⟩
         rcases Nat.lt_or_ge j k with h | h
         · exact hall'.out j r h hr
         · obtain rfl : j = k := by omega
           rw [hq'.out] at hr
           cases hr
           exact hz2.out
        case measure => simp [intOf]; omega
    · obtain rfl : k = Nt := by omega
      have hall' : Hid (∀ (j : Nat) (q : Rq), t[j]? = some q → q.chk = 0) := Lib.hid (fun j q hq => hall j q (by have := (List.getElem?_eq_some_iff.1 hq).1; rw [hNt.out] at this; omega) hq)
      clear hall
      go_wp2_with fail
      refine (hR'.out _ hbw).mono ?_
      rintro e w3 ⟨rfl, hb3⟩
      have hB3 := hbw.trans (hb3.mono hbw.size)
      clear hb3 hbw
      cases hc0 : (C == 0)
      · have hc1 : (C != 0) = true := by simpa using hc0
        have hw := Lib.hid (wrong_r (l := l) hz.out hall'.out (by rw [hC'.out]; simpa using hc0))
        go_wp2
        go_ret
        exact ⟨Route.ret_int (by rw [← hE'.out, hw.out]), hB3⟩
      · have hc1 : (C != 0) = false := by simpa using hc0
        have hz3 : Hid (Route.checkV l = 0) := Lib.hid (by rw [hC'.out]; simpa using hc0)
        go_wp2
        go_loopw [31] (fun i wr => ∃ k : Nat, i = .int .i64 k ∧ k ≤ Nl ∧ (∀ (j : Nat) (s : Int × Int), j < k → l[j]? = some s → visB t s = true) ∧ Below w.heap.size w wr) (fun i _ => Nl - (intOf i).toNat)
        case atStart => exact ⟨0, rfl, Nat.zero_le _, fun j q hj => by omega, hB3⟩
        case round =>
         clear hB3
         obtain ⟨k2, rfl, hk2, hal2, hbw⟩ := hrel
         by_cases hlt : k2 < Nl
         · obtain ⟨s, hs⟩ : ∃ s, l[k2]? = some s := ⟨l[k2]'(by rw [hNl.out]; exact hlt), List.getElem?_eq_getElem _⟩
           obtain ⟨g, o, rfl, hg, c0, c1⟩ := Row.stop (hL'.out.keep hbw (Nat.le_refl _)) hs
           have hs' := Lib.hid hs
           have hal' := Lib.hid hal2
           clear hs hal2
           have hbA := hbw.alloc hbw.size (.cells #[.int .i64 s.1, .int .i64 s.2] 82)
           have hvi := visitOf_any s.1 s.2 _ t _ (hT'.out.on hbA)
           go_wp2_with fail
           refine hvi.mono ?_
           clear hvi
           rintro e w4 ⟨rfl, hb4⟩
           have hB4 := hbA.trans (hb4.mono hbA.size)
           clear hb4 hbA hbw c0 c1
           cases hvb : visB t (s.1, s.2)
           · have hw := Lib.hid (wrong_s hz.out hall'.out hs'.out hvb)
             have hB5 := hB4.alloc hB4.size (.cells #[.int .i64 (visV t (s.1, s.2)).px, .int .i64 (visV t (s.1, s.2)).py, .int .i64 (visV t (s.1, s.2)).we, .int .i64 (visV t (s.1, s.2)).wl, .int .i64 (visV t (s.1, s.2)).sv] 189)
             go_wp2
             go_ret
             exact ⟨Route.ret_int (by rw [← hE'.out, hw.out]), hB5⟩
           · have hvb' := Lib.hid hvb
             have hB5 := hB4.alloc hB4.size (.cells #[.int .i64 (visV t (s.1, s.2)).px, .int .i64 (visV t (s.1, s.2)).py, .int .i64 (visV t (s.1, s.2)).we, .int .i64 (visV t (s.1, s.2)).wl, .int .i64 (visV t (s.1, s.2)).sv] 189)
             clear hvb
             go_wp2
             go_roundw
             case rel =>
              refine ⟨k2 + 1, by go_num, hlt, fun j r hj hr => ?_, hB5⟩
              rcases Nat.lt_or_ge j k2 with h | h
              · exact hal'.out j r h hr
              · obtain rfl : j = k2 := by omega
                rw [hs'.out] at hr
                cases hr
                exact hvb'.out
             case measure => simp [intOf]; omega
         · obtain rfl : k2 = Nl := by omega
           have hw := Lib.hid (wrong_no (l := l) hz.out hall'.out hz3.out (fun j s hs => hal2 j s (by have := (List.getElem?_eq_some_iff.1 hs).1; rw [hNl.out] at this; omega) hs))
           clear hal2
           go_wp2
           go_ret
           exact ⟨Route.ret_int (by rw [← hE'.out, hw.out]), hbw⟩
end Go.Proofs.YteclpblfleakhaaGreatDoor.When

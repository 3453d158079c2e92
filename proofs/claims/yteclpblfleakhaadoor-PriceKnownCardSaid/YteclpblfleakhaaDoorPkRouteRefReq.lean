import Derived.Test.YteclpblfleakhaaDoorPkSched
import Derived.Test.YteclpblfleakhaaDoorPkMapN

namespace Go.Proofs.YteclpblfleakhaaDoor.Route
open Go.RowKit Go.Proofs.YteclpblfleakhaaDoor.Mem
set_option linter.unusedVariables false
theorem pick_yes {l : List (Int × Int)} {k : Nat} {s : Int × Int} (h : l[k]? = some s) (e : s.2 = 0) : picksL (l.take (k + 1)) = picksL (l.take k) ++ [s.1] := by rw [take_get h]; simp [picksL, e]
theorem pick_no {l : List (Int × Int)} {k : Nat} {s : Int × Int} (h : l[k]? = some s) (e : s.2 ≠ 0) : picksL (l.take (k + 1)) = picksL (l.take k) := by rw [take_get h]; simp [picksL, e]
theorem picks_le (l : List (Int × Int)) : (picksL l).length ≤ l.length := by
 unfold picksL
 rw [List.length_map]
 exact List.length_filter_le ..
theorem picks_take (l : List (Int × Int)) (k : Nat) : (picksL (l.take k)).length ≤ k := by
 have := picks_le (l.take k)
 rw [List.length_take] at this
 omega
theorem reqs_good {l : List (Int × Int)} (h : checkV l = 0) : reqsL l = picksL l := by
 unfold checkV at h
 unfold reqsL
 split at h
 · omega
 · split at h
   · rename_i h1 h2
     rw [h2, show decide (l.length ≤ 16) = true by simp; omega]
     rfl
   · omega
theorem reqs_bad {l : List (Int × Int)} (h : checkV l ≠ 0) : reqsL l = [] := by
 unfold checkV at h
 unfold reqsL
 split at h
 · rw [show decide (l.length ≤ 16) = false by simp; omega]
   rfl
 · split at h
   · omega
   · rename_i h1 h2
     rw [show isR l = false by simpa using h2, Bool.and_false]
     rfl
def cntF (l : List (Int × Int)) (r : Int) : Option Int := if (ofR r l).length = 0 then none else some ((ofR r l).length : Nat)
theorem cntF_get (l : List (Int × Int)) (r : Int) : (cntF l r).getD 0 = ((ofR r l).length : Nat) := by
 unfold cntF
 split
 · rename_i h; rw [h]; rfl
 · rfl
theorem cntF_nil (r : Int) : cntF [] r = none := by simp [cntF, ofR]
theorem cntF_next {l : List (Int × Int)} {k : Nat} {s : Int × Int} (h : l[k]? = some s) (q : Int) : cntF (l.take (k + 1)) q = (fun q => if q = s.1 then some (((ofR s.1 (l.take k)).length : Int) + 1) else cntF (l.take k) q) q := by
 rw [take_get h]
 unfold cntF
 simp only
 rw [ofR_append]
 by_cases hq : q = s.1
 · subst hq
   rw [ofR_cons_same rfl, List.length_append, if_neg (by simp), if_pos rfl]
   simp [ofR]
 · rw [ofR_cons_other (fun e => hq e.symm), if_neg hq, show ofR q [] = [] from rfl, List.append_nil]
theorem scan_bad {l : List (Int × Int)} {k : Nat} {s : Int × Int} (h : l[k]? = some s) (hs : scan [] l = scan (l.take k) (l.drop k)) (hb : okS (l.take k) s = false) : scan [] l = l.take k := by
 obtain ⟨hlt, hx⟩ := List.getElem?_eq_some_iff.1 h
 rw [hs, List.drop_eq_getElem_cons hlt, hx, scan, hb]
 rfl
theorem scan_good {l : List (Int × Int)} {k : Nat} {s : Int × Int} (h : l[k]? = some s) (hs : scan [] l = scan (l.take k) (l.drop k)) (hb : okS (l.take k) s = true) : scan [] l = scan (l.take (k + 1)) (l.drop (k + 1)) := by
 obtain ⟨hlt, hx⟩ := List.getElem?_eq_some_iff.1 h
 rw [hs, List.drop_eq_getElem_cons hlt, hx, scan, hb, take_get h]
 rfl
theorem drops_yes {l : List (Int × Int)} {k : Nat} {s : Int × Int} (h : l[k]? = some s) (e : s.2 = 1) : dropsN (l.take (k + 1)) = dropsN (l.take k) + 1 := by rw [take_get h]; simp [dropsN, e]
theorem drops_no {l : List (Int × Int)} {k : Nat} {s : Int × Int} (h : l[k]? = some s) (e : s.2 ≠ 1) : dropsN (l.take (k + 1)) = dropsN (l.take k) := by rw [take_get h]; simp [dropsN, e]
theorem drops_take (l : List (Int × Int)) (k : Nat) : dropsN (l.take k) ≤ k := by
 have : dropsN (l.take k) ≤ (l.take k).length := List.length_filter_le ..
 rw [List.length_take] at this
 omega
theorem of_take (r : Int) (l : List (Int × Int)) (k : Nat) : (ofR r (l.take k)).length ≤ k := by
 have : (ofR r (l.take k)).length ≤ (l.take k).length := List.length_filter_le ..
 rw [List.length_take] at this
 omega
theorem ret_vi {v : Value} {a b : Int} (h : a = b) : Ending.returned (.tuple #[v, .int .i64 a]) = .returned (.tuple #[v, .int .i64 b]) := by rw [h]
theorem wpList_lookup_want {P : Program} (w : World) {ops : Array Oper} {rest : List Oper} {o : Oper} {a : Act} {Q : Exit → Act → World → Prop}
 (hw : Region.wanted o (yielded ops a.tmps) = true) (m x : Operand) (t : TypeId) (hop : o.op = Op.lookup t m x false)
 (k e : TypeId) (q : IntKind) (K : Maps.Keyed P k) (ht : P.underlying t = some (.map k e)) (he : P.underlying e = some (.int q)) (hz : (zeroValue e).run P w = .ok (.int q 0) w) (b n : Nat) (D : DataW Unit)
 (hm : a.eval m = .map (some b)) (hown : w.ownsMap P k (plainElem P e) b n D) (key : Value) (kl : Lit) (hx : a.eval x = key) (hkey : keyOf P k key = some kl)
 (hK : ∀ c : Int, D.atKey kl (.lit (.int q 0)) = .lit (.int q c) → (Lit.int q c).wf = true → wpList P ops Q rest (a.put o.dst (.int q c)) w) :
 wpList P ops Q (o :: rest) a w := by
 refine BigFrame.wpList_want hw fun K' hK' => ?_
 obtain ⟨c, hrun, hat, hwc⟩ := hown.lookup_int K ht he hz hkey
 unfold Oper.wp
 simp [execOp, hop, hm, hx, hrun, Result.andThen]
 exact hK' _ _ (hK c hat hwc)
theorem owns_ne {W : World} {base : Nat} {e : TypeId} {size n : Nat} {v : Value} {xs : List Value} (h : W.ownsRow base e size v n xs) {g : Nat} (hg : g < base) : v.ownBlock = none ∨ v.ownBlock ≠ some g := by
 cases hv : v.ownBlock with
 | none => exact .inl rfl
 | some k => exact .inr (fun e => by have h1 := owns_row h _ hv; cases e; omega)
set_option maxRecDepth 100000 in
set_option maxHeartbeats 4000000 in
theorem pairs_any (v : Value) (l : List (Int × Int)) (hl : l.length ≤ 1000000) (hnum : Nums l) (w : World) (h : Row w.heap.size w v l) :
 Calls Tryd.prog 79 #[v] w fun e w' => (∃ v', e = .returned (.tuple #[v', .int .i64 (dropsN (scan [] l))]) ∧ Ints w'.heap.size w' v' (picksL (scan [] l))) ∧ Below w.heap.size w w' := by
 obtain ⟨i0, hi, hz0, hz1, hz2⟩ := info_parts info_int
 obtain ⟨x, N, cap, rfl, hN', h0', hc1, hc2⟩ := h.opened
 have h' := Lib.hid h
 have hnum' := Lib.hid hnum
 rw [hN'.out] at hl
 clear h hnum
 have hmm := @run_makeMap Tryd.prog
 have hM0 : MapAt (w.alloc (.map #[] 0)) w.heap.size 0 (cntF (l.take 0)) := (MapAt.made w).funs (fun r => by rw [List.take_zero, cntF_nil])
 have hb0 : Below w.heap.size w (w.alloc (.map #[] 0)) := (Below.refl _ _).alloc (Nat.le_refl _) _
 obtain ⟨b, hb1, hb2⟩ : ∃ b, w.heap.size ≤ b ∧ b ≤ w.heap.size := ⟨_, Nat.le_refl _, Nat.le_refl _⟩
 have hbe := Lib.hid (show w.heap.size = b by omega)
 go_enter Tryd.func79, Tryd.ntmps79
 go_wp2_with fail
 go_step3
 go_wp2_with fail
 go_step3
 rw [hbe.out] at hM0
 simp only [hbe.out]
 generalize (w.alloc (.map #[] 0)) = w1 at *
 have hw1 := hb0.size
 go_wp2
 go_loopw [2, 3, 10] (fun u d i wr => ∃ k dn : Nat, k ≤ N ∧ i = .int .i64 k ∧ d = .int .i64 dn ∧ Hid (dn = dropsN (l.take k)) ∧ wr.ownsRow (b + 1) 3 1 u (picksL (l.take k)).length (flatI (picksL (l.take k))) ∧ MapAt wr b k (cntF (l.take k)) ∧ Hid (scan [] l = scan (l.take k) (l.drop k)) ∧ Below w.heap.size w wr)
  (fun _ _ i _ => N - (intOf i).toNat)
 case atStart => exact ⟨0, 0, by omega, rfl, rfl, Lib.hid (by simp [dropsN]), by simpa [picksL, flatI] using World.ownsRow_nil _ _ _ _, hM0, Lib.hid (by simp), hb0⟩
 case round =>
  obtain ⟨k, dn, hk, rfl, rfl, hdn, hown, hmap, hsc, hbw⟩ := hrel
  clear hM0 hb0
  have hdl : dn ≤ k := by rw [hdn.out]; exact drops_take l k
  have hsz := hbw.size
  have hbi := hmap.inside
  by_cases hlt : k < N
  · obtain ⟨⟨s1, s2⟩, hs, _⟩ := drop_get (l := l) (k := k) (by rw [hN'.out]; exact hlt)
    obtain ⟨g, o, rfl, hg, e1, e2⟩ := Row.stop h'.out hs
    have e1 := (hbw.cell (p := ⟨g, o + k * 2, none⟩) hg).trans e1
    have e2 := (hbw.cell (p := ⟨g, o + k * 2 + 1, none⟩) hg).trans e2
    simp at e1 e2
    have hI := (hnum'.out _ (List.mem_of_getElem? hs)).1
    have hkey := key_lit hI
    simp only at hkey
    obtain ⟨c, hc⟩ : ∃ c : Nat, (ofR s1 (l.take k)).length = c := ⟨_, rfl⟩
    have hck : c ≤ k := by rw [← hc]; exact of_take ..
    have hcc := Lib.hid hc
    have hbad := Lib.hid (scan_bad hs hsc.out)
    have hgood := Lib.hid (scan_good hs hsc.out)
    have hpy := Lib.hid (pick_yes hs)
    have hpn := Lib.hid (pick_no hs)
    have hdy := Lib.hid (drops_yes hs)
    have hdo := Lib.hid (drops_no hs)
    have hcn := Lib.hid (cntF_next hs)
    have hln := picks_take l k
    have hS := At.new wr 61 #[.int .i64 s1, .int .i64 s2]
    have hm1 := hmap.alloc (.cells #[.int .i64 s1, .int .i64 s2] 61)
    have ho1 := hown.alloc (.cells #[.int .i64 s1, .int .i64 s2] 61)
    have hB1 := hbw.alloc hbw.size (.cells #[.int .i64 s1, .int .i64 s2] 61)
    have hoq := Lib.hid (fun r e => (hown.lt r e).2)
    clear hs hc hown hmap hbw
    go_upto_region 5 with fail
    obtain ⟨q, hq⟩ : ∃ q, wr.heap.size = q := ⟨_, rfl⟩
    rw [hq] at hS hoq ⊢
    generalize (wr.alloc (.cells #[.int .i64 s1, .int .i64 s2] 61)) = w2 at *
    have hqb : b < q := by omega
    have hqi := hS.inside
    have a0 := hS.cell 0
    have a1 := hS.cell 1
    simp at a0 a1
    clear e1 e2 hq hmm
    generalize hP : picksL (l.take k) = P at *
    have hP' := Lib.hid hP
    clear hP
    have fin : Hid (scan [] l = l.take k → ∀ V, Ints V.heap.size V u2 P → Below w.heap.size w V → (∃ v', Ending.returned (.tuple #[u2, .int .i64 dn]) = .returned (.tuple #[v', .int .i64 (dropsN (scan [] l))]) ∧ Ints V.heap.size V v' (picksL (scan [] l))) ∧ Below w.heap.size w V) :=
     Lib.hid fun he V hV hBV => ⟨⟨_, ret_vi (by rw [he, hdn.out]), by rw [he, hP'.out]; exact hV⟩, hBV⟩
    cases c0 : decide (s1 < 0)
    case true =>
     have hF := Lib.hid (hbad.out (by simp at c0; simp [okS]; omega))
     have hPI := Lib.hid (Ints.of_owns (B := w2.heap.size) ho1 rfl (Nat.le_refl _))
     clear ho1 hm1
     go_wp2
     refine bodyPost_ret (v := .tuple #[_, .int .i64 _]) (by simp [results, Tryd.results79, go_sem]; exact ⟨rfl, rfl⟩) rfl ?_
     exact fin.out hF.out _ hPI.out hB1
    case false =>
    have hm1' := hm1
    obtain ⟨D, hom, hD⟩ := hm1'
    have hcD : D.atKey (.int .i64 s1) (.lit (.int .i64 0)) = .lit (.int .i64 (c : Int)) := by rw [(hD s1).2, cntF_get, hcc.out]
    have hcD' := Lib.hid hcD
    clear hD hcD
    cases c5 : (s2 == (c : Int))
    case false =>
     have c5' : (s2 != (c : Int)) = true := by simpa using c5
     have hF := Lib.hid (hbad.out (by simp at c5; simp [okS, hcc.out]; intro _; exact c5))
     have hPI := Lib.hid (Ints.of_owns (B := w2.heap.size) ho1 rfl (Nat.le_refl _))
     clear ho1 hm1
     go_wp2_with (at_lookup; refine wpList_lookup_want _ (by simp [Region.wanted, yielded]) _ _ 78 rfl 3 3 .i64 (Maps.int_keyed Tryd.underlying3) Tryd.underlying78 Tryd.underlying3 (Tryd.zeroValue3 _) b k D rfl hom _ _ rfl hkey ?_; intro c' hat hwc; obtain rfl : (c : Int) = c' := lit_inj (hcD'.out.symm.trans hat); clear hat hwc)
     refine bodyPost_ret (v := .tuple #[_, .int .i64 _]) (by simp [results, Tryd.results79, go_sem]; exact ⟨rfl, rfl⟩) rfl ?_
     exact fin.out hF.out _ hPI.out hB1
    case true =>
    have c5' : (s2 != (c : Int)) = false := by simpa using c5
    have hsn := Lib.hid (hgood.out (by simp at c0 c5; simp [okS, hcc.out]; exact ⟨by omega, c5⟩))
    have hec := Lib.hid (show s2 = (c : Int) by simpa using c5)
    go_upto_region 6 with (at_lookup; refine wpList_lookup_want _ (by simp [Region.wanted, yielded]) _ _ 78 rfl 3 3 .i64 (Maps.int_keyed Tryd.underlying3) Tryd.underlying78 Tryd.underlying3 (Tryd.zeroValue3 _) b k D rfl hom _ _ rfl hkey ?_; intro c' hat hwc; obtain rfl : (c : Int) = c' := lit_inj (hcD'.out.symm.trans hat); clear hat hwc)
    clear hom hcD' c5 D
    cases c6 : (s2 == 0)
    case true =>
     have hp := Lib.hid (hpy.out (by simpa using c6))
     have hd := Lib.hid (hdo.out (by simp at c6 ⊢; omega))
     clear hpy hpn hdy hdo hbad hgood
     go_upto_region 10 with (at_builtin; refine wpList_append_own _ rfl _ _ 158 rfl (b + 1) 3 i0 (.int .i64 0) 1 8 Tryd.underlying158 hi hz0 hz1 hz2 rfl (by decide) _ _ _ rfl (ho1.alloc _) ⟨w2.heap.size, 0, none⟩ 1 1 [.int .i64 s1] rfl rfl (cell_one_new _ _ _) (by simp [Value.oneCell']) (by unfold maxLen; omega) (by omega) (by simp; omega) ?_; intro v7 w7 hown7 hgrow7 hnil7)
     have hm7 : MapAt w7 b k (cntF (l.take k)) := (hm1.alloc _).same (hgrow7.block b (by simp; have := hm1.inside; omega) (fun e => by have := owns_row ho1 _ e.symm; omega))
     have hB7 := (hB1.alloc hB1.size _).grown hgrow7 (by simp; have := hB1.size; omega) (fun r e => by have := owns_row ho1 _ e; omega)
     have hS7 : At w7 q 61 #[.int .i64 s1, .int .i64 s2] := (hgrow7.block q (by simp; omega) (fun e => by have := hoq.out _ e.symm; omega)).trans (hS.alloc _)
     clear hgrow7 hnil7 ho1 hm1 hB1 hS a0 a1
     have a0 := hS7.cell 0
     have a1 := hS7.cell 1
     simp at a0 a1
     obtain ⟨D, hom, hD⟩ := hm7
     have hcD : D.atKey (.int .i64 s1) (.lit (.int .i64 0)) = .lit (.int .i64 (c : Int)) := by rw [(hD s1).2, cntF_get, hcc.out]
     have hcD' := Lib.hid hcD
     have hD' := Lib.hid hD
     clear hD hcD
     go_wp2_with (first | (at_lookup; refine wpList_lookup_own_int _ rfl _ _ 78 rfl 3 3 .i64 (Maps.int_keyed Tryd.underlying3) Tryd.underlying78 Tryd.underlying3 (Tryd.zeroValue3 _) b k D rfl hom _ _ rfl hkey ?_; intro c' hat hwc; obtain rfl : (c : Int) = c' := lit_inj (hcD'.out.symm.trans hat); clear hat hwc) | (at_mapUpdate; refine wpList_mapUpdate_own _ rfl _ _ _ 78 rfl 3 3 (Maps.int_keyed Tryd.underlying3) Tryd.underlying78 _ b k D rfl hom (by unfold maxLen; omega) _ _ _ rfl rfl hkey _ [] (plainElem_int Tryd.underlying3 (show (Lit.int .i64 ((c : Int) + 1)).wf = true from I64.wf ⟨by omega, by omega⟩)) ?_; intro w8 hom8 hgrow8))
     have hm8 : MapAt w8 b (k + 1) (cntF (l.take (k + 1))) := MapAt.funs ⟨_, hom8, put_tells hom.isMap hD'.out trivial⟩ (fun q => by rw [hcn.out q, hcc.out])
     have ho8 := World.ownsRow.kept hown7 hgrow8 (owns_ne hown7 (Nat.lt_succ_self b))
     have hB8 := hB7.grown hgrow8 (by have := hB7.size; omega) (fun r e => by cases e; exact hb1)
     go_roundw
     case rel => exact ⟨k + 1, dn, by omega, by go_num, rfl, Lib.hid (hdn.out.trans hd.out.symm), by rw [hp.out, flatI_snoc, List.length_append]; exact ho8, hm8, hsn, hB8⟩
     case measure => simp [intOf]; omega
    case false =>
    have hp := Lib.hid (hpn.out (by simpa using c6))
    cases c7 : (s2 == 1)
    case true =>
     have hd := Lib.hid (hdy.out (by simpa using c7))
     clear hpy hpn hdy hdo hbad hgood
     obtain ⟨D, hom, hD⟩ := hm1
     have hcD : D.atKey (.int .i64 s1) (.lit (.int .i64 0)) = .lit (.int .i64 (c : Int)) := by rw [(hD s1).2, cntF_get, hcc.out]
     have hcD' := Lib.hid hcD
     have hD' := Lib.hid hD
     clear hD hcD
     go_wp2_with (first | (at_lookup; refine wpList_lookup_own_int _ rfl _ _ 78 rfl 3 3 .i64 (Maps.int_keyed Tryd.underlying3) Tryd.underlying78 Tryd.underlying3 (Tryd.zeroValue3 _) b k D rfl hom _ _ rfl hkey ?_; intro c' hat hwc; obtain rfl : (c : Int) = c' := lit_inj (hcD'.out.symm.trans hat); clear hat hwc) | (at_mapUpdate; refine wpList_mapUpdate_own _ rfl _ _ _ 78 rfl 3 3 (Maps.int_keyed Tryd.underlying3) Tryd.underlying78 _ b k D rfl hom (by unfold maxLen; omega) _ _ _ rfl rfl hkey _ [] (plainElem_int Tryd.underlying3 (show (Lit.int .i64 ((c : Int) + 1)).wf = true from I64.wf ⟨by omega, by omega⟩)) ?_; intro w8 hom8 hgrow8))
     have hm8 : MapAt w8 b (k + 1) (cntF (l.take (k + 1))) := MapAt.funs ⟨_, hom8, put_tells hom.isMap hD'.out trivial⟩ (fun q => by rw [hcn.out q, hcc.out])
     have ho8 := World.ownsRow.kept ho1 hgrow8 (owns_ne ho1 (Nat.lt_succ_self b))
     have hB8 := hB1.grown hgrow8 (by have := hB1.size; omega) (fun r e => by cases e; exact hb1)
     go_roundw
     case rel => exact ⟨k + 1, dn + 1, by omega, by go_num, by go_num, Lib.hid (by rw [hd.out, hdn.out]), by rw [hp.out]; exact ho8, hm8, hsn, hB8⟩
     case measure => simp [intOf]; omega
    case false =>
     have hd := Lib.hid (hdo.out (by simpa using c7))
     clear hpy hpn hdy hdo hbad hgood
     obtain ⟨D, hom, hD⟩ := hm1
     have hcD : D.atKey (.int .i64 s1) (.lit (.int .i64 0)) = .lit (.int .i64 (c : Int)) := by rw [(hD s1).2, cntF_get, hcc.out]
     have hcD' := Lib.hid hcD
     have hD' := Lib.hid hD
     clear hD hcD
     go_wp2_with (first | (at_lookup; refine wpList_lookup_own_int _ rfl _ _ 78 rfl 3 3 .i64 (Maps.int_keyed Tryd.underlying3) Tryd.underlying78 Tryd.underlying3 (Tryd.zeroValue3 _) b k D rfl hom _ _ rfl hkey ?_; intro c' hat hwc; obtain rfl : (c : Int) = c' := lit_inj (hcD'.out.symm.trans hat); clear hat hwc) | (at_mapUpdate; refine wpList_mapUpdate_own _ rfl _ _ _ 78 rfl 3 3 (Maps.int_keyed Tryd.underlying3) Tryd.underlying78 _ b k D rfl hom (by unfold maxLen; omega) _ _ _ rfl rfl hkey _ [] (plainElem_int Tryd.underlying3 (show (Lit.int .i64 ((c : Int) + 1)).wf = true from I64.wf ⟨by omega, by omega⟩)) ?_; intro w8 hom8 hgrow8))
     have hm8 : MapAt w8 b (k + 1) (cntF (l.take (k + 1))) := MapAt.funs ⟨_, hom8, put_tells hom.isMap hD'.out trivial⟩ (fun q => by rw [hcn.out q, hcc.out])
     have ho8 := World.ownsRow.kept ho1 hgrow8 (owns_ne ho1 (Nat.lt_succ_self b))
     have hB8 := hB1.grown hgrow8 (by have := hB1.size; omega) (fun r e => by cases e; exact hb1)
     go_roundw
     case rel => exact ⟨k + 1, dn, by omega, by go_num, rfl, Lib.hid (hdn.out.trans hd.out.symm), by rw [hp.out]; exact ho8, hm8, hsn, hB8⟩
     case measure => simp [intOf]; omega
  · obtain rfl : k = N := by omega
    have he : l.take k = l := by rw [← hN'.out, List.take_length]
    have hse := Lib.hid (show scan [] l = l by rw [hsc.out, he, List.drop_eq_nil_of_le (by rw [hN'.out]; omega), scan])
    have hde := Lib.hid (show dn = dropsN l by rw [hdn.out, he])
    rw [he] at hown
    have hPI := Lib.hid (Ints.of_owns (B := wr.heap.size) hown rfl (Nat.le_refl _))
    clear hown hmap he hmm
    go_wp2
    simp only [Exit.noGoto_ret]
    refine bodyPost_ret (v := .tuple #[_, .int .i64 _]) (by simp [results, Tryd.results79, go_sem]; exact ⟨rfl, rfl⟩) rfl ?_
    exact ⟨⟨_, ret_vi (by rw [hse.out, hde.out]), by rw [hse.out]; exact hPI.out⟩, hbw⟩
theorem scan_drops_le (l : List (Int × Int)) : dropsN (scan [] l) ≤ l.length := by
 obtain ⟨_, t, ht⟩ := scan_steps (rest := l) Steps.nil
 rw [List.nil_append] at ht
 have h1 : dropsN (scan [] l) ≤ (scan [] l).length := List.length_filter_le ..
 have h2 := congrArg List.length ht
 rw [List.length_append] at h2
 omega
theorem reqs_long {l : List (Int × Int)} (h : 16 < l.length) : reqsL l = [] := reqs_bad (by rw [chk_long h]; omega)
theorem ret_vv {v : Value} {a b : Int} (h : a = b) : Ending.returned (.tuple #[v, .int .i64 a]) = .returned (.tuple #[v, .int .i64 b]) := by rw [h]
set_option maxRecDepth 100000 in
set_option maxHeartbeats 2000000 in
theorem requests_any (v : Value) (l : List (Int × Int)) (hl : l.length ≤ 1000000) (hnum : Nums l) (w : World) (h : Row w.heap.size w v l) :
 Calls Tryd.prog 68 #[v] w fun e w' => (∃ v', e = .returned (.tuple #[v', .int .i64 (checkV l)]) ∧ Ints w'.heap.size w' v' (reqsL l)) ∧ Below w.heap.size w w' := by
 have hpr := pairs_any v l hl hnum w h
 have hdl := scan_drops_le l
 obtain ⟨x, N, cap, rfl, hN', h0', hc1, hc2⟩ := h.opened
 rw [hN'.out] at hl hdl
 clear h hnum
 by_cases h16 : 16 < N
 · have hv := Lib.hid (chk_long (l := l) (by rw [hN'.out]; exact h16))
   have hr := Lib.hid (reqs_long (l := l) (by rw [hN'.out]; exact h16))
   clear hpr
   go_enter Tryd.func68, Tryd.ntmps68
   go_wp2
   refine bodyPost_ret (v := .tuple #[.slice none 0 0, .int .i64 _]) (by simp [results, Tryd.results68, go_sem]; exact rfl) rfl ?_
   exact ⟨⟨_, ret_vv hv.out.symm, by rw [hr.out]; exact RowB.nil _ _ _⟩, Below.refl _ _⟩
 · obtain ⟨hs1, hs2⟩ := scan_isR l
   rw [hN'.out] at hs1
   obtain ⟨d, hd⟩ : ∃ d, dropsN (scan [] l) = d := ⟨_, rfl⟩
   rw [hd] at hpr hdl hs1
   have hs1' := Lib.hid hs1
   have hs2' := Lib.hid hs2
   clear hd hs1 hs2
   cases c1 : ((d : Int) * 2 == N)
   · have hb : isR l = false := by
      cases hr : isR l
      · rfl
      · have := hs1'.out.2 hr
        simp at c1; omega
     have hv := Lib.hid (chk_bad (l := l) (by rw [hN'.out]; omega) hb)
     have hr := Lib.hid (reqs_bad (l := l) (by rw [hv.out]; omega))
     have c1' : ((d : Int) * 2 != N) = true := by simpa using c1
     clear hb
     go_enter Tryd.func68, Tryd.ntmps68
     go_wp2_with fail
     refine hpr.mono ?_
     rintro e w1 ⟨⟨v1, rfl, hv1⟩, hb1⟩
     go_wp2
     refine bodyPost_ret (v := .tuple #[.slice none 0 0, .int .i64 _]) (by simp [results, Tryd.results68, go_sem]; exact rfl) rfl ?_
     exact ⟨⟨_, ret_vv hv.out.symm, by rw [hr.out]; exact RowB.nil _ _ _⟩, hb1⟩
   · have hb : isR l = true := hs1'.out.1 (by simp at c1; omega)
     have hv := Lib.hid (chk_good (l := l) (by rw [hN'.out]; omega) hb)
     have hr := Lib.hid (show reqsL l = picksL (scan [] l) from (reqs_good (l := l) hv.out).trans (by rw [hs2'.out hb]))
     have c1' : ((d : Int) * 2 != N) = false := by simpa using c1
     clear hb
     go_enter Tryd.func68, Tryd.ntmps68
     go_wp2_with fail
     refine hpr.mono ?_
     rintro e w1 ⟨⟨v1, rfl, hv1⟩, hb1⟩
     go_wp2
     refine bodyPost_ret (v := .tuple #[_, .int .i64 _]) (by simp [results, Tryd.results68, go_sem]; exact ⟨rfl, rfl⟩) rfl ?_
     exact ⟨⟨_, ret_vv hv.out.symm, by rw [hr.out]; exact hv1⟩, hb1⟩
theorem Check_any (v : Value) (l : List (Int × Int)) (hl : l.length ≤ 1000000) (hnum : Nums l) (w : World) (h : Row w.heap.size w v l) :
 Calls Tryd.prog 45 #[v] w fun e w' => e = .returned (.int .i64 (checkV l)) ∧ Below w.heap.size w w' := by
 have hpr := requests_any v l hl hnum w h
 obtain ⟨x, N, cap, rfl, hN', h0', hc1, hc2⟩ := h.opened
 clear h hnum
 go_enter Tryd.func45, Tryd.ntmps45
 go_wp2_with fail
 refine hpr.mono ?_
 rintro e w1 ⟨⟨v1, rfl, hv1⟩, hb1⟩
 go_wp2
 go_ret
 exact ⟨rfl, hb1⟩
theorem Requests_any (v : Value) (l : List (Int × Int)) (hl : l.length ≤ 1000000) (hnum : Nums l) (w : World) (h : Row w.heap.size w v l) :
 Calls Tryd.prog 92 #[v] w fun e w' => (∃ v', e = .returned v' ∧ Ints w'.heap.size w' v' (reqsL l)) ∧ Below w.heap.size w w' := by
 have hpr := requests_any v l hl hnum w h
 obtain ⟨x, N, cap, rfl, hN', h0', hc1, hc2⟩ := h.opened
 clear h hnum
 go_enter Tryd.func92, Tryd.ntmps92
 go_wp2_with fail
 refine hpr.mono ?_
 rintro e w1 ⟨⟨v1, rfl, hv1⟩, hb1⟩
 go_wp2
 go_ret
 exact ⟨⟨_, rfl, hv1⟩, hb1⟩
end Go.Proofs.YteclpblfleakhaaDoor.Route

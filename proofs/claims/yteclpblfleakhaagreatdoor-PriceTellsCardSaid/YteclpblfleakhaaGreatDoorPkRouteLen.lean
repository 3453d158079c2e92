import Derived.Test.YteclpblfleakhaaGreatDoorPkWhenDraft2
import Derived.Test.YteclpblfleakhaaGreatDoorPkFeasLessMath

namespace Go.Proofs.YteclpblfleakhaaGreatDoor.Route
open Go.RowKit Go.Sort Go.Proofs.YteclpblfleakhaaGreatDoor.Mem
set_option linter.unusedVariables false
def Plain (v : Value) : Prop := v = .slice none 0 0 ∨ ∃ ad m c, v = .slice (some ad) m c
theorem gRefl (W : World) (row : Option Nat) : W.grownBy W row := ⟨rfl, rfl, rfl, Nat.le_refl _, fun _ _ _ => rfl⟩
theorem gDrew (W : World) (row : Option Nat) : W.grownBy { W with drawn := W.drawn + 1 } row := ⟨rfl, rfl, rfl, Nat.le_refl _, fun _ _ _ => rfl⟩
theorem gAt {w v : World} {g : Nat} {t : TypeId} {cs : Array Value} {row : Option Nat} (h : At w g t cs) (hg : w.grownBy v row) (hne : some g ≠ row) : At v g t cs := (hg.block g h.inside hne).trans h
theorem gBelow {w v : World} (h : w.grownBy v none) : Below w.heap.size w v := (Below.refl _ _).grown h (Nat.le_refl _) (fun r e => by cases e)
theorem owns_more {W : World} {b c : Nat} {e : TypeId} {size n : Nat} {v : Value} {xs : List Value} (h : W.ownsRow c e size v n xs) (hb : b ≤ c) : W.ownsRow b e size v n xs := by
 obtain ⟨hl, h1 | ⟨g, cap, cur, rfl, hg1, hr⟩⟩ := h
 · exact ⟨hl, .inl h1⟩
 · exact ⟨hl, .inr ⟨g, cap, cur, rfl, by omega, hr⟩⟩
theorem wpList_append_plain {P : Program} {w : World} {ops : Array Oper} {rest : List Oper} {o : Oper} {a : Act} {Q : Exit → Act → World → Prop} (hgd : o.guard = none) (s x : Operand) (t : TypeId)
 (ho : o.op = .call { callee := .builtin .append, args := #[s, x], argTypes := #[t, t] })
 (base : Nat) (e : TypeId) (i : TypeInfo) (z : Value) (size bytes : Nat) (ht : P.underlying t = some (.slice e)) (hi : P.info? e = some i) (hz : i.zero = some z)
 (hsize : i.size = size) (hby : i.bytes = bytes) (hzs : z.cells.size = size) (hsz : 0 < size)
 (v : Value) (n : Nat) (xs : List Value) (hs : a.eval s = v) (hown : w.ownsRow base e size v n xs)
 (vx : Value) (m : Nat) (hvx : ∃ y c, vx = .slice y m c) (hP : Plain vx) (news : List Value) (hx : a.eval x = vx) (hl : news.length = m * size) (hnews : ∀ ad c, vx = .slice (some ad) m c → ∀ j u, news[j]? = some u → w.cell? (ad.add j) = some u) (h1 : ∀ u ∈ news, u.oneCell' = true)
 (h63 : n + m ≤ maxLen) (hbytes : (n + m) * bytes ≤ 140737488355328) (hbase : base ≤ w.heap.size)
 (h : ∀ v' w', w'.ownsRow base e size v' (n + m) (xs ++ news) → w.grownBy w' v.ownBlock → wpList P ops Q rest (a.put o.dst v') w') : wpList P ops Q (o :: rest) a w := by
 obtain ⟨y, c, rfl⟩ := hvx
 rcases hP with hn | ⟨ad, mm, cc, he⟩
 · simp only [Value.slice.injEq] at hn
   obtain ⟨rfl, rfl, rfl⟩ := hn
   have hnil : news = [] := List.eq_nil_of_length_eq_zero (by rw [hl]; simp)
   subst hnil
   refine wpList_append_own_none hgd s x t ho base e i size ht hi v n xs hs hown hx ?_
   exact h v w (by simpa using hown) (gRefl _ _)
 · simp only [Value.slice.injEq] at he
   obtain ⟨rfl, rfl, rfl⟩ := he
   exact wpList_append_own w hgd s x t ho base e i z size bytes ht hi hz hsize hby hzs hsz v n xs hs hown ad m c news hx hl (hnews ad c rfl) h1 h63 hbytes hbase (fun v' w' h2 h3 _ => h v' w' h2 h3)
theorem add_at (g o j : Nat) : (⟨g, o, none⟩ : Addr).add j = ⟨g, o + j, none⟩ := by
 unfold Addr.add
 split
 · rename_i h; rw [h]; rfl
 · rfl
theorem map_get {l : List (Int × Int)} {i : Nat} {r : List Value} (h : (l.map stV)[i]? = some r) : ∃ s, l[i]? = some s ∧ r = stV s := by
 rw [List.getElem?_map] at h
 obtain ⟨s, h1, h2⟩ := Option.map_eq_some_iff.1 h
 exact ⟨s, h1, h2.symm⟩
theorem Row.flat {B : Nat} {W : World} {b : Addr} {N cap : Nat} {l : List (Int × Int)} (h : Row B W (.slice (some b) N cap) l) : ∀ j u, (flatS l)[j]? = some u → W.cell? (b.add j) = some u := by
 intro j u hj
 obtain ⟨i, k, r, e, hr, hu⟩ := flat_of (m := 2) (by decide) (fun r hr => by obtain ⟨s, _, rfl⟩ := List.mem_map.1 hr; rfl) j u hj
 obtain ⟨g, o, hx, hg, hc⟩ := RowB.row h hr
 cases hx
 have := hc k u hu
 rw [add_at, e, show o + (i * 2 + k) = o + i * 2 + k by omega]
 exact this
theorem Row.dropFrom {B : Nat} {W : World} {x : Option Addr} {N cap k : Nat} {l : List (Int × Int)} (h : Row B W (.slice x N cap) l) (hl : l.length = N) (hk : k ≤ N) : Row B W (.slice (if cap = k then x else x.map (·.add (k * 2))) (N - k) (cap - k)) (l.drop k) := by
 obtain ⟨x', cap', e, h1, h2, h0, h3⟩ := h
 simp only [Value.slice.injEq, List.length_map] at e
 obtain ⟨rfl, rfl, rfl⟩ := e
 simp only [List.length_map] at h1
 refine ⟨(if cap = k then x else x.map (·.add (k * 2))), cap - k, by simp, by simp; omega, by omega, fun hx => ?_, fun j r hj => ?_⟩
 · have : x = none := by
    split at hx
    · exact hx
    · simpa using hx
   have := h0 this
   simp at this
   simp [this]
 · obtain ⟨s, hs, rfl⟩ := map_get hj
   rw [List.getElem?_drop] at hs
   obtain ⟨g, o, rfl, hg, hc⟩ := h3 (k + j) (stV s) (by rw [List.getElem?_map, hs]; rfl)
   have hkl : k + j < l.length := (List.getElem?_eq_some_iff.1 hs).1
   refine ⟨g, o + k * 2, ?_, hg, fun q u hq => ?_⟩
   · rw [if_neg (by omega)]
     simp [add_at]
   · rw [show o + k * 2 + j * 2 + q = o + (k + j) * 2 + q by omega]
     exact hc q u hq
theorem Row.plain {B : Nat} {W : World} {v : Value} {l : List (Int × Int)} (h : Row B W v l) : Plain v := by
 obtain ⟨x, cap, rfl, h1, h2, h0, _⟩ := h
 cases x with
 | none =>
  have := h0 rfl
  simp at this
  exact .inl (by simp [this])
 | some b => exact .inr ⟨b, _, _, rfl⟩
def New (B : Nat) (v : Value) : Prop := ∀ r, v.ownBlock = some r → B ≤ r
theorem New.nil (B : Nat) : New B (.slice none 0 0) := fun r e => by cases e
theorem New.more {B C : Nat} {v : Value} (h : New B v) (hc : C ≤ B) : New C v := fun r e => Nat.le_trans hc (h r e)
def VL (L S : Value) (p : Int) (s1 s2 : Int) (x : Option Addr) (k N : Nat) (fs : List Value) : Nat → Value → World → Prop
 | 0, y, _ => y = L
 | 1, y, _ => y = .int .i64 p
 | 2, y, _ => y = .int .i64 p
 | 3, y, _ => y = .slice x k k
 | 4, y, _ => y = .agg #[.int .i64 s1, .int .i64 s2]
 | 5, y, W => ∃ g1 : Nat, y = .slice (some ⟨g1, 0, none⟩) 1 1 ∧ N ≤ g1 ∧ At W g1 82 #[.int .i64 s1, .int .i64 s2]
 | 6, y, W => W.ownsRow N 82 2 y (k + 1) fs
 | 7, y, _ => y = L
 | 8, y, _ => y = .int .i64 p
 | 9, y, _ => y = S
 | _, _, _ => True
theorem VL.keep {L S : Value} {p s1 s2 : Int} {x : Option Addr} {k N : Nat} {fs : List Value} {i : Nat} {v : Value} {W V : World} (h : VL L S p s1 s2 x k N fs i v W) (hg : W.grownBy V none) : VL L S p s1 s2 x k N fs i v V := by
 match i with
 | 0 | 1 | 2 | 3 | 4 | 7 | 8 | 9 => exact h
 | 5 =>
  obtain ⟨g, e, h1, h2⟩ := h
  exact ⟨g, e, h1, gAt h2 hg (by simp)⟩
 | 6 => exact World.ownsRow.kept h hg (by cases hv : v.ownBlock <;> simp)
 | i + 10 => trivial
set_option maxRecDepth 100000 in
set_option maxHeartbeats 2000000 in
theorem lengthened_any (v : Value) (l : List (Int × Int)) (k : Nat) (s1 s2 : Int) (hl : l.length ≤ 1000000) (hk : k ≤ l.length) (w : World) (h : Row w.heap.size w v l) :
 Calls Tryz.prog 74 #[v, .int .i64 k, .agg #[.int .i64 s1, .int .i64 s2]] w fun e w' => (∃ v', e = .returned v' ∧ Row w'.heap.size w' v' (putL l k (s1, s2)) ∧ New w.heap.size v') ∧ Below w.heap.size w w' := by
 obtain ⟨i0, hi, hz0, hz1, hz2⟩ := info_parts info_stop
 obtain ⟨x, N, cap, rfl, hN', h0', hc1, hc2⟩ := h.opened
 rw [hN'.out] at hl hk
 have hT := Lib.hid (h.cutTo hN'.out hk)
 have hD := Lib.hid (h.dropFrom hN'.out hk)
 obtain ⟨S, hS⟩ : ∃ S : Value, S = .slice (if cap = k then x else x.map (·.add (k * 2))) (N - k) (cap - k) := ⟨_, rfl⟩
 rw [← hS] at hD
 have hSs := Lib.hid hS
 have hx0 : (if k = 0 then x else x.map (·.add (0 * 2))) = x := by
  split
  · rfl
  · cases x with
    | none => rfl
    | some b => simp [Addr.add]
 have hx0' := Lib.hid hx0
 have hA0 := At.new w 82 #[.int .i64 s1, .int .i64 s2]
 have hb0 : Below w.heap.size w (w.alloc (.cells #[.int .i64 s1, .int .i64 s2] 82)) := (Below.refl _ _).alloc (Nat.le_refl _) _
 clear h hx0 hS
 go_enter Tryz.func74, Tryz.ntmps74
 go_upto_region 1 with fail
 generalize (w.alloc (.cells #[.int .i64 s1, .int .i64 s2] 82)) = w1 at *
 have hqi := hA0.inside
 refine Sched.wp_region_sched 10 (fun W V => W.grownBy V none) (VL (.slice x N cap) S k s1 s2 x k w1.heap.size (flatS (l.take k) ++ [.int .i64 s1, .int .i64 s2])) (fun _ _ _ => True) (by kernel_rfl) (by kernel_rfl) (by kernel_rfl) (fun h1 h2 => h1.trans h2) (fun h1 h2 => VL.keep h1 h2) (gDrew _ _) (fun _ => trivial) (Sched.StepsA.steps (by kernel_rfl) ?hS1) ?hQ1
 case hS1 =>
  simp only [List.take_succ_cons, List.take_zero]
  refine ⟨?_, ?_, ?_, ?_, ?_, ?_, ?_, ?_, ?_, ?_, trivial⟩
  · intro ys done W aa hE hn hF hD2 hZ hG hO
    have o0 := hO 0 (by kernel_rfl)
    replace o0 : aa.tmps[0]? = some (.slice x N cap) := o0
    go_wp2_with fail
    exact ⟨_, rfl, gRefl _ _, rfl⟩
  · intro ys done W aa hE hn hF hD2 hZ hG hO
    have o1 := hO 1 (by kernel_rfl)
    replace o1 : aa.tmps[1]? = some (.int .i64 k) := o1
    go_wp2_with fail
    exact ⟨_, rfl, gRefl _ _, rfl⟩
  · intro ys done W aa hE hn hF hD2 hZ hG hO
    have o1 := hO 1 (by kernel_rfl)
    replace o1 : aa.tmps[1]? = some (.int .i64 k) := o1
    go_wp2_with fail
    exact ⟨_, rfl, gRefl _ _, rfl⟩
  · intro ys done W aa hE hn hF hD2 hZ hG hO
    have v0 := hF 0 (by decide) (hD2 0 (by kernel_rfl))
    replace v0 : ys 0 = .slice x N cap := v0
    have g0 := hG 0 7 rfl (Nat.le_of_ble_eq_true rfl)
    rw [v0] at g0
    have v1 := hF 1 (by decide) (hD2 1 (by kernel_rfl))
    replace v1 : ys 1 = .int .i64 k := v1
    have g1 := hG 1 8 rfl (Nat.le_of_ble_eq_true rfl)
    rw [v1] at g1
    have v2 := hF 2 (by decide) (hD2 2 (by kernel_rfl))
    replace v2 : ys 2 = .int .i64 k := v2
    have g2 := hG 2 9 rfl (Nat.le_of_ble_eq_true rfl)
    rw [v2] at g2
    have hkc : k ≤ cap := by omega
    go_wp2_with fail
    exact ⟨_, rfl, gRefl _ _, by show _ = _; have := hx0'.out; simp at this ⊢ <;> exact this⟩
  · intro ys done W aa hE hn hF hD2 hZ hG hO
    replace hE : w1.grownBy W none := hE
    have o5 := hO 5 (by kernel_rfl)
    replace o5 : aa.tmps[5]? = some (.pointer (some ⟨w.heap.size, 0, none⟩)) := o5
    have hAW := gAt hA0 hE (by simp)
    have a0 := hAW.cell 0
    have a1 := hAW.cell 1
    simp at a0 a1
    go_wp2_with fail
    exact ⟨_, rfl, gRefl _ _, rfl⟩
  · intro ys done W aa hE hn hF hD2 hZ hG hO
    replace hE : w1.grownBy W none := hE
    have v4 := hF 4 (by decide) (hD2 4 (by kernel_rfl))
    replace v4 : ys 4 = .agg #[.int .i64 s1, .int .i64 s2] := v4
    have g4 := hG 4 11 rfl (Nat.le_of_ble_eq_true rfl)
    rw [v4] at g4
    go_wp2_with fail
    exact ⟨_, rfl, World.grownBy_alloc _ _ _, ⟨_, rfl, hE.size, At.new _ _ _⟩⟩
  · intro ys done W aa hE hn hF hD2 hZ hG hO
    replace hE : w1.grownBy W none := hE
    have v3 := hF 3 (by decide) (hD2 3 (by kernel_rfl))
    replace v3 : ys 3 = .slice x k k := v3
    have g3 := hG 3 10 rfl (Nat.le_of_ble_eq_true rfl)
    rw [v3] at g3
    obtain ⟨g1, e5, hg1, hA1⟩ := (show VL _ _ _ _ _ _ _ _ _ 5 (ys 5) W from hF 5 (by decide) (hD2 5 (by kernel_rfl)))
    have g5 := hG 5 12 rfl (Nat.le_of_ble_eq_true rfl)
    rw [e5] at g5
    have hTW := hT.out.keep (hb0.trans ((gBelow hE).mono hb0.size)) (Nat.le_refl _)
    refine wpList_append_grows W rfl _ _ 28 rfl 82 i0 (.agg #[.int .i64 0, .int .i64 0]) 2 16 Tryz.underlying28 hi hz0 hz1 hz2 rfl (by decide) x k k (flatS (l.take k)) (show aa.tmps.getD 10 undef = .slice x k k by simp [g3]) (fun e => by have := h0'.out e; exact ⟨by omega, by omega⟩)
     (by rw [flatS_length, List.length_take, hN'.out, Nat.min_eq_left hk]) (fun b e => ?c1) ⟨g1, 0, none⟩ 1 1 [.int .i64 s1, .int .i64 s2] (show aa.tmps.getD 12 undef = .slice (some ⟨g1, 0, none⟩) 1 1 by simp [g5]) rfl (World.news_of_block (cs := #[.int .i64 s1, .int .i64 s2]) (t := 82) (fr := (0, 0)) hA1) (by simp [Value.oneCell']) (by omega) (by unfold maxLen; omega) (by omega) ?c2
    case c1 =>
     subst e
     exact hTW.flat
    case c2 =>
     intro v' w' hown hgrow
     refine wpList_nil ?_
     exact ⟨_, rfl, hgrow, owns_more hown hE.size, trivial⟩
  · intro ys done W aa hE hn hF hD2 hZ hG hO
    have o0 := hO 0 (by kernel_rfl)
    replace o0 : aa.tmps[0]? = some (.slice x N cap) := o0
    go_wp2_with fail
    exact ⟨_, rfl, gRefl _ _, rfl⟩
  · intro ys done W aa hE hn hF hD2 hZ hG hO
    have o1 := hO 1 (by kernel_rfl)
    replace o1 : aa.tmps[1]? = some (.int .i64 k) := o1
    go_wp2_with fail
    exact ⟨_, rfl, gRefl _ _, rfl⟩
  · intro ys done W aa hE hn hF hD2 hZ hG hO
    have v7 := hF 7 (by decide) (hD2 7 (by kernel_rfl))
    replace v7 : ys 7 = .slice x N cap := v7
    have g7 := hG 7 14 rfl (Nat.le_of_ble_eq_true rfl)
    rw [v7] at g7
    have v8 := hF 8 (by decide) (hD2 8 (by kernel_rfl))
    replace v8 : ys 8 = .int .i64 k := v8
    have g8 := hG 8 15 rfl (Nat.le_of_ble_eq_true rfl)
    rw [v8] at g8
    go_wp2_with fail
    · exact ⟨_, rfl, gRefl _ _, by show _ = S; rw [hSs.out, if_pos (by assumption)]; simp; omega⟩
    · exact ⟨_, rfl, gRefl _ _, by show _ = S; rw [hSs.out, if_neg (by assumption)]⟩
 case hQ1 =>
  intro ys W hE hF _
  replace hE : w1.grownBy W none := hE
  have v9 : ys 9 = S := hF 9 (by decide)
  have h6 : W.ownsRow w1.heap.size 82 2 (ys 6) (k + 1) (flatS (l.take k) ++ [.int .i64 s1, .int .i64 s2]) := hF 6 (by decide)
  simp only [List.take_succ_cons, List.take_zero, List.drop_succ_cons, List.drop_zero, Sched.fill, v9]
  generalize ys 6 = y6 at *
  have hBW := hb0.trans ((gBelow hE).mono hb0.size)
  have hDW := hD.out.keep hBW (Nat.le_refl _)
  have hlen : (flatS (l.drop k)).length = (N - k) * 2 := by rw [flatS_length, List.length_drop, hN'.out]
  have hszW := hE.size
  have hqw := hb0.size
  clear hF v9 hD
  go_simp
  go_wp2_with (at_builtin; refine wpList_append_plain rfl _ _ 28 rfl w1.heap.size 82 i0 (.agg #[.int .i64 0, .int .i64 0]) 2 16 Tryz.underlying28 hi hz0 hz1 hz2 rfl (by decide) _ _ _ rfl h6 S (N - k) ⟨_, _, hSs.out⟩ hDW.plain (flatS (l.drop k)) rfl hlen (fun ad c e => by rw [e] at hDW; exact hDW.flat) flatS_one (by unfold maxLen; omega) (by omega) hszW ?_; intro v7 w7 hown7 hgrow7)
  have hr : Row w7.heap.size w7 v7 (putL l k (s1, s2)) := by
   refine Row.of_owns (base := w1.heap.size) (e := 82) (n := k + 1 + (N - k)) ?_ (by rw [putL_length, hN'.out]; omega) (Nat.le_refl _)
   have e : flatS (putL l k (s1, s2)) = flatS (l.take k) ++ [.int .i64 s1, .int .i64 s2] ++ flatS (l.drop k) := by
    unfold putL
    rw [flatS_append, show (s1, s2) :: l.drop k = [(s1, s2)] ++ l.drop k from rfl, flatS_append, List.append_assoc]
    rfl
   rw [e]
   exact hown7
  have hr' := Lib.hid hr
  have hnw := Lib.hid (show New w.heap.size v7 from fun r e => by have := owns_row hown7 r e; omega)
  have hB7 := hBW.grown hgrow7 (by omega) (fun r e => by have := owns_row h6 r e; omega)
  clear hr hown7
  go_ret
  exact ⟨⟨_, rfl, hr'.out, hnw.out⟩, hB7⟩
end Go.Proofs.YteclpblfleakhaaGreatDoor.Route
namespace Go.Proofs.YteclpblfleakhaaGreatDoor.When
open Go.RowKit Go.Proofs.YteclpblfleakhaaGreatDoor.Mem Go.Proofs.YteclpblfleakhaaGreatDoor.Route
set_option linter.unusedVariables false
theorem own_grown {w5 W V : World} {r row : Option Nat} (h : w5.grownBy W r) (hg : W.grownBy V row) (hr : ∀ b, row = some b → w5.heap.size ≤ b) : w5.grownBy V r :=
 ⟨hg.os.trans h.os, hg.tape.trans h.tape, hg.output.trans h.output, Nat.le_trans h.size hg.size, fun k hk hn => (hg.block k (by have := h.size; omega) (fun e => by have := hr k e.symm; omega)).trans (h.block k hk hn)⟩
theorem grown_below2 {w v u : World} {g : Nat} (h : w.grownBy v (some g)) (hb : Below v.heap.size v u) : w.grownBy u (some g) :=
 ⟨hb.os.trans h.os, hb.tape.trans h.tape, hb.output.trans h.output, Nat.le_trans h.size hb.size, fun k hk hn => (hb.block k (Nat.lt_of_lt_of_le hk h.size)).trans (h.block k hk hn)⟩
theorem DraftAt.keep {W W' : World} {g B : Nat} {sv : Value} {bs : List Int} {a b k : Int} (h : DraftAt W g sv bs a b k) (hb : Below B W W') (hg : g < B) : DraftAt W' g sv bs a b k :=
 ⟨h.box.keep hb hg, h.row.keep hb (Nat.le_of_lt hg), h.byte, h.na, h.nb⟩
def flatQ (t : List Rq) : List Value := (t.map rqV).flatten
theorem flatQ_snoc (t : List Rq) (q : Rq) : flatQ (t ++ [q]) = flatQ t ++ [.int .i64 q.fx, .int .i64 q.fy, .int .i64 q.tx, .int .i64 q.ty, .int .i64 q.pe, .int .i64 q.pl, .int .i64 q.de, .int .i64 q.dl, .int .i64 q.ld, .int .i64 q.sv] := by simp [flatQ, rqV]
theorem Rqs.of_owns {B : Nat} {W : World} {base n : Nat} {e : TypeId} {v : Value} {l : List Rq} (h : W.ownsRow base e 10 v n (flatQ l)) (hn : n = l.length) (hB : W.heap.size ≤ B) : Rqs B W v l :=
 RowB.of_owns h (by simpa using hn) (fun r hr => by obtain ⟨s, _, rfl⟩ := List.mem_map.1 hr; rfl) hB
theorem info_request : (Tryz.prog.info? 43).map (fun i => (i.zero, i.size, i.bytes)) = some (some (.agg #[.int .i64 0, .int .i64 0, .int .i64 0, .int .i64 0, .int .i64 0, .int .i64 0, .int .i64 0, .int .i64 0, .int .i64 0, .int .i64 0]), 10, 80) := by kernel_rfl
set_option maxRecDepth 100000 in
set_option maxHeartbeats 1000000 in
theorem drequests_any (w : World) (g : Nat) (sv : Value) (bs : List Int) (a b k : Int) (n : Nat) (h : DraftAt w g sv bs a b k) (hk : 0 ≤ k ∧ k < 700000) (hn : n ≤ 9) :
 Calls Tryz.prog 13 #[.pointer (some ⟨g, 0, none⟩), .int .i64 n] w fun e w' =>
  (∃ u t, e = .returned u ∧ w'.ownsRow w.heap.size 43 10 u t.length (flatQ t) ∧ t.length = n ∧ ∀ q ∈ t, q.dr) ∧ DraftAt w' g sv bs a b (k + 8 * n) ∧ w.grownBy w' (some g) := by
 obtain ⟨i0, hi, hz0, hz1, hz2⟩ := info_parts info_request
 have hgi := h.box.inside
 have h' := Lib.hid h
 clear h
 go_enter Tryz.func13, Tryz.ntmps13
 go_wp2
 go_loopw [5, 6] (fun u i wr => ∃ (j : Nat) (t : List Rq) (x : Option Addr) (cap : Nat), i = .int .i64 j ∧ j ≤ n ∧ u = .slice x j cap ∧ t.length = j ∧ wr.ownsRow w.heap.size 43 10 (.slice x j cap) j (flatQ t) ∧ (∀ q ∈ t, q.dr) ∧ DraftAt wr g sv bs a b (k + 8 * j) ∧ w.grownBy wr (some g)) (fun _ i _ => n - (intOf i).toNat)
 case atStart => exact ⟨0, [], none, 0, rfl, Nat.zero_le _, rfl, rfl, World.ownsRow_nil _ _ _ _, fun q hq => (by cases hq), by simpa using h'.out, grown_refl _ _⟩
 case round =>
  obtain ⟨j, t, x, cap, rfl, hj, rfl, htl, hown, hch, hD, hG⟩ := hrel
  clear h'
  have htl' := Lib.hid htl
  have hch' := Lib.hid hch
  clear htl hch
  by_cases hlt : j < n
  · have hcall := drequest_any wr g sv bs a b (k + 8 * j) (25 * j) hD (by omega) (by omega)
    have hown' := Lib.hid hown
    have hG' := Lib.hid hG
    have hws := hG.size
    clear hown hG hD
    go_wp2_with fail
    refine hcall.mono ?_
    clear hcall
    rintro e w3 ⟨⟨q, rfl, hq⟩, hD3, hg3⟩
    rw [show k + 8 * (j : Int) + 8 = k + 8 * ((j + 1 : Nat) : Int) by omega] at hD3
    have hown3 := Lib.hid (owns_old hown'.out hg3 (fun r e => .inl (by cases e; omega)))
    have hro := Lib.hid (owns_row hown'.out)
    have hG3 := Lib.hid (hG'.out.trans hg3)
    have hD3' := Lib.hid hD3
    have hq' := Lib.hid hq
    have hs3 := hg3.size
    clear hD3 hg3 hq
    go_wp2_with (at_builtin; refine wpList_append_own _ rfl _ _ 37 rfl w.heap.size 43 i0 (.agg #[.int .i64 0, .int .i64 0, .int .i64 0, .int .i64 0, .int .i64 0, .int .i64 0, .int .i64 0, .int .i64 0, .int .i64 0, .int .i64 0]) 10 80 Tryz.underlying37 hi hz0 hz1 hz2 rfl (by decide) _ _ _ rfl (hown3.out.alloc _) ⟨w3.heap.size, 0, none⟩ 1 1 [.int .i64 q.fx, .int .i64 q.fy, .int .i64 q.tx, .int .i64 q.ty, .int .i64 q.pe, .int .i64 q.pl, .int .i64 q.de, .int .i64 q.dl, .int .i64 q.ld, .int .i64 q.sv] rfl rfl (World.news_of_block (cs := #[.int .i64 q.fx, .int .i64 q.fy, .int .i64 q.tx, .int .i64 q.ty, .int .i64 q.pe, .int .i64 q.pl, .int .i64 q.de, .int .i64 q.dl, .int .i64 q.ld, .int .i64 q.sv]) (t := 43) (fr := (0, 0)) (heap_alloc_new w3 _)) (by simp [Value.oneCell']) (by unfold maxLen; omega) (by omega) (by simp; omega) ?_; intro v7 w7 hown7 hgrow7 hnil7; obtain ⟨x7, c7, rfl, _, _⟩ := owns_slice hown7)
    have hG7 := own_grown (hG3.out.trans (World.grownBy_alloc _ _ _)) hgrow7 (fun r e => hro.out r e)
    have hD7 := (hD3'.out.alloc _).under hgrow7 (fun r e => by have := hro.out r e; omega)
    go_roundw
    case rel =>
     refine ⟨j + 1, t ++ [q], x7, c7, by go_num, hlt, rfl, by simp [htl'.out], by rw [flatQ_snoc]; exact hown7, fun p hp => ?_, hD7, hG7⟩
     rcases List.mem_append.1 hp with hp | hp
     · exact hch'.out p hp
     · obtain rfl := List.mem_singleton.1 hp
       exact hq'.out
    case measure => simp [intOf]; omega
  · obtain rfl : j = n := by omega
    have hown' := Lib.hid hown
    have hD' := Lib.hid hD
    have hG' := Lib.hid hG
    clear hown hD hG
    go_wp2
    go_ret
    exact ⟨⟨_, t, rfl, by rw [htl'.out]; exact hown'.out, htl'.out, hch'.out⟩, hD'.out, hG'.out⟩
def Small (l : List (Int × Int)) : Prop := ∀ s ∈ l, (0 ≤ s.1 ∧ s.1 ≤ 6) ∧ 0 ≤ s.2 ∧ s.2 ≤ 1
theorem Small.nums {l : List (Int × Int)} (h : Small l) : Nums l := fun s hs => by have := h s hs; exact ⟨⟨by omega, by omega⟩, by omega, by omega⟩
theorem Small.put {l : List (Int × Int)} (h : Small l) (k : Nat) {s : Int × Int} (hs : (0 ≤ s.1 ∧ s.1 ≤ 6) ∧ 0 ≤ s.2 ∧ s.2 ≤ 1) : Small (putL l k s) := by
 intro p hp
 unfold putL at hp
 rcases List.mem_append.1 hp with hp | hp
 · exact h p (List.mem_of_mem_take hp)
 · rcases List.mem_cons.1 hp with rfl | hp
   · exact hs
   · exact h p (List.mem_of_mem_drop hp)
def Fine (l : List (Int × Int)) (j : Nat) : Prop := Small l ∧ isR l = true ∧ (∀ s ∈ l, s.1 < j) ∧ l.length = 2 * j
theorem Fine.nil : Fine [] 0 := ⟨fun s h => (by cases h), rfl, fun s h => (by cases h), rfl⟩
def Half (l8 : List (Int × Int)) (j K : Nat) : Prop := ∃ l, Fine l j ∧ K ≤ l.length ∧ putL l K ((j : Int), 0) = l8
theorem Half.mk_ {l : List (Int × Int)} {j K : Nat} (h : Fine l j) (hK : K ≤ l.length) : Half (putL l K ((j : Int), 0)) j K := ⟨l, h, hK, rfl⟩
theorem flat_put (l : List (Int × Int)) (k : Nat) (s1 s2 : Int) : flatS (putL l k (s1, s2)) = [] ++ flatS (l.take k) ++ [.int .i64 s1, .int .i64 s2] ++ flatS (l.drop k) := by
 unfold putL
 rw [flatS_append, show (s1, s2) :: l.drop k = [(s1, s2)] ++ l.drop k from rfl, flatS_append, List.nil_append, List.append_assoc]
 rfl
theorem owns_empty {W : World} {base n : Nat} {e : TypeId} (hn : n = W.heap.size) (hb : base ≤ n) : (W.alloc (.cells #[] e)).ownsRow base e 2 (.slice (some ⟨n, 0, none⟩) 0 0) 0 [] := by
 subst hn
 exact ⟨rfl, .inr ⟨W.heap.size, 0, #[], rfl, hb, heap_alloc_new W _, Nat.le_refl _, Nat.zero_le _, rfl, rfl⟩⟩
theorem own_lt {W : World} {base size k : Nat} {e : TypeId} {v : Value} {xs : List Value} (h : W.ownsRow base e size v k xs) : ∀ r, v.ownBlock = some r → r < W.heap.size := by
 obtain ⟨hl, ⟨rfl, h0⟩ | ⟨g, cap, cur, rfl, hb, hg, hc1, hc2, hs, ht⟩⟩ := h
 · intro r e; cases e
 · intro r e
   simp only [Value.ownBlock, Option.some.injEq] at e
   have := (Array.getElem?_eq_some_iff.1 hg).1
   omega
theorem takeNews {B : Nat} {W : World} {x : Option Addr} {N cap k : Nat} {l : List (Int × Int)} (h : Row B W (.slice x N cap) l) (hl : l.length = N) (hk : k ≤ N) : ∀ ad, x = some ad → ∀ j u, (flatS (l.take k))[j]? = some u → W.cell? (ad.add j) = some u := by
 intro ad e
 subst e
 exact (h.cutTo hl hk).flat
theorem dropNews {B : Nat} {W : World} {x : Option Addr} {N cap k : Nat} {l : List (Int × Int)} (h : Row B W (.slice x N cap) l) (hl : l.length = N) (hk : k ≤ N) : ∀ ad, (if cap = k then x else x.map (·.add (k * 2))) = some ad → ∀ j u, (flatS (l.drop k))[j]? = some u → W.cell? (ad.add j) = some u := by
 intro ad e
 have := h.dropFrom hl hk
 rw [e] at this
 exact this.flat
theorem owns_parts {W : World} {base size n cap : Nat} {e : TypeId} {x : Option Addr} {xs : List Value} (h : W.ownsRow base e size (.slice x n cap) n xs) : (x = none ∧ n = 0 ∧ cap = 0) ∨ ∃ q : Nat, x = some ⟨q, 0, none⟩ ∧ n ≤ cap := by
 obtain ⟨hl, ⟨e1, h0⟩ | ⟨q, cap', cur, e1, hb, hg, hc1, hc2, hs, ht⟩⟩ := h
 · simp only [Value.slice.injEq] at e1
   exact .inl ⟨e1.1, h0, e1.2.2⟩
 · simp only [Value.slice.injEq] at e1
   obtain ⟨rfl, _, rfl⟩ := e1
   exact .inr ⟨q, rfl, hc1⟩
end Go.Proofs.YteclpblfleakhaaGreatDoor.When
namespace Go.Proofs.YteclpblfleakhaaGreatDoor.Ins
open Go.RowKit Go.Proofs.YteclpblfleakhaaGreatDoor.Order Go.Proofs.YteclpblfleakhaaGreatDoor.Place Go.Proofs.YteclpblfleakhaaGreatDoor.Route Go.Proofs.YteclpblfleakhaaGreatDoor.When Go.Proofs.YteclpblfleakhaaGreatDoor.Load Go.Proofs.YteclpblfleakhaaGreatDoor.Feas
set_option linter.unusedVariables false
theorem fault_iff {v : Vh} {l : List (Int × Int)} {t : List Rq} (h : Feas.Dr v l t) : (faultV v l t).1 = 0 ↔ errT v l t = 0 ∧ fitE v l t = 0 := by
 rcases h.agree with ⟨h1, h2, h3⟩ | ⟨h1, h2, _⟩ | ⟨h1, h2, _⟩ <;> omega
theorem less_fault {v : Vh} {l : List (Int × Int)} {t : List Rq} (h : Feas.Dr v l t) (r : Int) (hf : (faultV v l t).1 = 0) : errT v (woL r l) t = 0 ∧ fitE v (woL r l) t = 0 :=
 (fault_iff (h.less r)).1 ((less_serves h r).2 hf)
theorem rise_iff {v : Vh} {l : List (Int × Int)} {t : List Rq} {r i j : Int} (hm : Feas.Dr v (moreL l r i j) t) (hw : mayW l r i j = true) (hr : inT t r = true) (hl : l.length ≤ 14) :
 riseE v l t r i j = 0 ↔ (faultV v (moreL l r i j) t).1 = 0 := by
 have hwi := mayW_iff.1 hw
 rw [fault_iff hm]
 constructor
 · intro h
   have := riseE_zero h
   exact ⟨this.2.2, this.2.1⟩
 · intro h
   have hl0 := less_fault hm r ((fault_iff hm).2 h)
   have e : woL r (moreL l r i j) = l := wo_with hw
   rw [e] at hl0
   have hto : (inT t r && noR r l) = true := by rw [hr, hwi.2.2.2.2.2]; rfl
   have hz : withE v l t r i j = 0 := withE_ok hto hl0.1 (by omega) (by rw [placesB_iff]; exact ⟨hwi.1, hwi.2.1, hwi.2.2.1⟩)
   rw [riseE_err hz h.2]
   exact h.1
theorem endT_early {v : Vh} {l : List (Int × Int)} {t : List Rq} (h : Feas.Dr v l t) (he : errT v l t = 0) : earlyL (sp0 v) (visL t l) = some (endA (sp0 v) (visL t l)) := by
 have ho := (When.errT_zero he).2
 unfold When.okT at ho
 rw [Bool.and_eq_true] at ho
 exact ((early_sched (a := sp0 v) h.visL).1 ho.1).1
theorem home_may {v : Vh} (h : v.chk = 0) : MayV (homeV v) := by
 unfold Vh.chk at h
 exact ⟨((veh_iff ..).1 h).1, Int.le_refl _⟩
theorem less_home {v : Vh} {l : List (Int × Int)} {t : List Rq} (h : Feas.Dr v l t) (r : Int) (he : errT v l t = 0) (he' : errT v (woL r l) t = 0) : homeT v (woL r l) t ≤ homeT v l t := by
 rw [homeT_ok he, homeT_ok he']
 obtain ⟨b', e1, e2⟩ := early_less (r := r) (g := visV t) (a' := sp0 v) h.may (home_may h.hv).1 (endT_early h he) (fun p _ => Int.le_refl _)
 have e3 := endT_early (h.less r) he'
 obtain rfl : b' = endA (sp0 v) (visL t (woL r l)) := Option.some.inj (e1.symm.trans e3)
 exact later_at e2 (home_may h.hv)
end Go.Proofs.YteclpblfleakhaaGreatDoor.Ins
namespace Go.Proofs.YteclpblfleakhaaGreatDoor.Ins
open Go.RowKit Go.Shelf Go.Proofs.YteclpblfleakhaaGreatDoor.Mem Go.Proofs.YteclpblfleakhaaGreatDoor.Route Go.Proofs.YteclpblfleakhaaGreatDoor.When Go.Proofs.YteclpblfleakhaaGreatDoor.Up
set_option linter.unusedVariables false
attribute [local go_sem] Oper.semAt_some
def rowL (N i j : Nat) : List (Int × Int) := (List.range' j (N + 1 - j)).map fun (k : Nat) => ((i : Int), (k : Int))
def fromL (N i : Nat) : List (Int × Int) := (List.range' i (N + 1 - i)).flatMap fun a => rowL N a a
def pairsL (n : Int) : List (Int × Int) := if 16 < n then [] else if n < 0 then [] else fromL n.toNat 0
theorem rowL_cons {N i j : Nat} (h : j ≤ N) : rowL N i j = ((i : Int), (j : Int)) :: rowL N i (j + 1) := by
 unfold rowL
 rw [show N + 1 - j = (N + 1 - (j + 1)) + 1 by omega, List.range'_succ]
 rfl
theorem rowL_nil {N i j : Nat} (h : N < j) : rowL N i j = [] := by
 unfold rowL
 rw [show N + 1 - j = 0 by omega]
 rfl
theorem fromL_cons {N i : Nat} (h : i ≤ N) : fromL N i = rowL N i i ++ fromL N (i + 1) := by
 unfold fromL
 rw [show N + 1 - i = (N + 1 - (i + 1)) + 1 by omega, List.range'_succ]
 rfl
theorem fromL_nil {N i : Nat} (h : N < i) : fromL N i = [] := by
 unfold fromL
 rw [show N + 1 - i = 0 by omega]
 rfl
theorem pairsL_in {N : Nat} (h : N ≤ 16) : pairsL N = fromL N 0 := by
 unfold pairsL
 rw [if_neg (by omega), if_neg (by omega), Int.toNat_natCast]
theorem pairsL_big {n : Int} (h : 16 < n) : pairsL n = [] := by unfold pairsL; rw [if_pos h]
theorem pairsL_neg {n : Int} (h : n < 0) : pairsL n = [] := by unfold pairsL; rw [if_neg (by omega), if_pos h]
theorem pairsL_len (n : Int) : (pairsL n).length ≤ 153 := by
 by_cases h1 : 16 < n
 · rw [pairsL_big h1]; simp
 by_cases h2 : n < 0
 · rw [pairsL_neg h2]; simp
 obtain ⟨N, rfl⟩ : ∃ N : Nat, n = N := ⟨n.toNat, by omega⟩
 have hN : N ≤ 16 := by omega
 rw [pairsL_in hN]
 have : ∀ N, N ≤ 16 → (fromL N 0).length ≤ 153 := by decide +kernel
 exact this N hN
def encP (y : Int × Int) : Array Value := #[.int .i64 y.1, .int .i64 y.2]
theorem Places_any (n : Int) (w : World) :
 Calls Tryz.prog 76 #[.int .i64 n] w fun e w' => e = .returned (.func (.func 93) #[] #[.pointer (some ⟨w.heap.size, 0, none⟩)]) ∧ w.alloc (.cells #[.int .i64 n] 3) = w' := by
 go_enter Tryz.func76, Tryz.ntmps76
 go_wp2
 go_ret
 exact ⟨rfl, rfl⟩
theorem nil_places (n : Nat) (w : World) : Sem.run Tryz.prog (binOp BinOp.eql 114 (Value.func (Fn.func 93) #[] #[.pointer (some ⟨n, 0, none⟩)]) Value.nilFunc) w = .ok (.bool false) w := by kernel_rfl
set_option maxRecDepth 100000 in
set_option maxHeartbeats 4000000 in
theorem places_runs (n : Int) (bn B : Nat) (good : Int × Int → Bool) (I : List (Int × Int) → World → Prop) (hI : ∀ p A, I p A → At A bn 3 #[.int .i64 n]) :
 Runs2 Tryz.prog 93 #[] #[.pointer (some ⟨bn, 0, none⟩)] encP good (pairsL n) B I := by
 intro ll J W hWB h0 hJ hJI hY
 refine callsIn_of_wp Tryz.func93 rfl trivial ?_ rfl
 simp only [Tryz.ntmps93, List.size_toArray, List.length_cons, List.length_nil, Nat.reduceAdd, Nat.reduceSub, Array.replicate_succ, Array.replicate_zero, List.push_toArray, List.append_toArray, List.nil_append, List.cons_append]
 have hA0 := hI _ _ (hJI _ _ h0)
 have n0 := hA0.cell 0
 have hbn := hA0.inside
 simp at n0
 have hWs : B ≤ W.heap.size := by omega
 refine wpIn_wide.2 (wp_scope_straight ((wpIn_wide (n := 2)).1 ?_))
 have hI' := Lib.hid hI
 have hY' := Lib.hid hY
 clear hI hY hA0
 by_cases h1 : 16 < n
 · have he := Lib.hid (pairsL_big h1)
   gi_wp2
   simp only [Exit.noGoto_ret]
   refine bodyPost_ret (results_none rfl _ _ _) rfl ?_
   refine ⟨⟨_, rfl⟩, ?_⟩
   rw [he.out]
   exact h0
 by_cases h2 : n < 0
 · have he := Lib.hid (pairsL_neg h2)
   gi_wp2_with fail
   apply wpIn_label
   gi_wp2
   gi_loopw [3] (fun i wr => i = .int .i64 0 ∧ wr = W) (fun i _ => 1 - (intOf i).toNat)
   case atStart => exact ⟨rfl, rfl⟩
   case round =>
    obtain ⟨rfl, rfl⟩ := hrel
    gi_wp2
    simp only [Exit.noGoto_normal]
    go_end0
    refine ⟨⟨_, rfl⟩, ?_⟩
    rw [he.out]
    exact h0
 obtain ⟨N, rfl⟩ : ∃ N : Nat, n = N := ⟨n.toNat, by omega⟩
 have hN : N ≤ 16 := by omega
 obtain ⟨xs, hxs⟩ : ∃ xs, pairsL N = xs := ⟨_, rfl⟩
 have hxs' : Hid (xs = fromL N 0) := Lib.hid (by rw [← hxs, pairsL_in hN])
 rw [hxs] at hY' ⊢
 clear hxs
 gi_wp2_with fail
 apply wpIn_label
 gi_wp2
 gi_loopw [3] (fun i wr => ∃ (pre : List (Int × Int)) (k : Nat), i = .int .i64 k ∧ k ≤ N + 1 ∧ Hid (xs = pre ++ fromL N k) ∧ Hid (∀ y ∈ pre, good y = true) ∧ J pre wr ∧ B ≤ wr.heap.size)
  (fun i _ => N + 1 - (intOf i).toNat)
 case atStart => exact ⟨[], 0, rfl, Nat.zero_le _, hxs', Lib.hid (fun y hy => by cases hy), h0, hWs⟩
 case round =>
  obtain ⟨pre, k, rfl, hk, hx, hg, hj, hs⟩ := hrel
  clear h0
  have hAr := hI'.out _ _ (hJI _ _ hj)
  have n0 := hAr.cell 0
  have hbr := hAr.inside
  simp at n0
  clear hAr
  by_cases hlt : k ≤ N
  · have hx2 : Hid (xs = pre ++ (rowL N k k ++ fromL N (k + 1))) := Lib.hid (by rw [hx.out, fromL_cons hlt])
    clear hx
    obtain ⟨wo, hwo⟩ : ∃ wo, wo = wr := ⟨_, rfl⟩
    subst hwo
    have hkNi : (k : Int) ≤ (N : Int) := by omega
    gi_wp2
    gi_loopw [4] (fun j wr => ∃ (pre : List (Int × Int)) (m : Nat), j = .int .i64 m ∧ m ≤ N + 1 ∧ Hid (xs = pre ++ (rowL N k m ++ fromL N (k + 1))) ∧ Hid (∀ y ∈ pre, good y = true) ∧ J pre wr ∧ B ≤ wr.heap.size)
     (fun j _ => N + 1 - (intOf j).toNat)
    case atStart => exact ⟨pre, k, rfl, by omega, hx2, hg, hj, hs⟩
    case round =>
     clear hj hx2 hg hs n0 hbr pre
     obtain ⟨pre, m, rfl, hm, hx, hg, hj, hs⟩ := hrel
     have hAr := hI'.out _ _ (hJI _ _ hj)
     have n0 := hAr.cell 0
     have hbr := hAr.inside
     simp at n0
     clear hAr
     by_cases hlm : m ≤ N
     · have hx2 : Hid (xs = pre ++ (((k : Int), (m : Int)) :: (rowL N k (m + 1) ++ fromL N (k + 1)))) := Lib.hid (by rw [hx.out, rowL_cons hlm]; rfl)
       obtain ⟨fn, tmps, assign, body, hyy, hR⟩ := hY'.out 1 pre ((k : Int), (m : Int)) wr ⟨_, hx2.out⟩ hj hg.out hs
       dsimp only [encP] at hyy
       have hlmi : (m : Int) ≤ (N : Int) := by omega
       clear hx hj
       gi_wp2_with fail
       refine hR.mono ?_
       clear hR hyy
       rintro e w4 ⟨rfl, hj4, hk4⟩
       have hs4 : B ≤ w4.heap.size := Nat.le_trans hs hk4
       clear hk4
       cases hgood : good ((k : Int), (m : Int))
       · gi_wp2
         simp only [Exit.noGoto_normal]
         go_end0
         refine ⟨⟨_, rfl⟩, ?_⟩
         rw [hx2.out, upTo_append hg.out, upTo_bad hgood]
         exact hj4
       · have hgg := Lib.hid (good_snoc hg.out hgood)
         clear hgood
         gi_wp2
         go_roundw
         case rel => exact ⟨pre ++ [((k : Int), (m : Int))], m + 1, by go_num, by omega, Lib.hid (by rw [hx2.out, List.append_assoc]; rfl), hgg, hj4, hs4⟩
         case measure => simp [intOf]; omega
     · obtain rfl : m = N + 1 := by omega
       have hx2 : Hid (xs = pre ++ fromL N (k + 1)) := Lib.hid (by rw [hx.out, rowL_nil (Nat.lt_succ_self _)]; rfl)
       clear hx
       gi_wp2
       go_roundw
       case rel => exact ⟨pre, k + 1, by go_num, by omega, hx2, hg, hj, hs⟩
       case measure => simp [intOf]; omega
  · obtain rfl : k = N + 1 := by omega
    have hx2 : Hid (xs = pre) := Lib.hid (by rw [hx.out, fromL_nil (Nat.lt_succ_self _), List.append_nil])
    clear hx
    gi_wp2
    simp only [Exit.noGoto_normal]
    go_end0
    refine ⟨⟨_, rfl⟩, ?_⟩
    rw [hx2.out, upTo_all hg.out]
    exact hj
end Go.Proofs.YteclpblfleakhaaGreatDoor.Ins

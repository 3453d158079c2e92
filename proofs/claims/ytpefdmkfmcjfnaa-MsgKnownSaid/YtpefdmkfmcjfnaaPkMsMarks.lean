import Derived.Test.YtpefdmkfmcjfnaaPkMsSame
import Derived.Test.YtpefdmkfmcjfnaaPkMsChain

namespace Go.Proofs.Ytpefdmkfmcjfnaa.Ms
open Go.RowKit Go.Sort Go.Proofs.Ytpefdmkfmcjfnaa.Mem Go.Proofs.Ytpefdmkfmcjfnaa.Route Go.Proofs.Ytpefdmkfmcjfnaa.Oct Go.Proofs.Ytpefdmkfmcjfnaa.Part
set_option linter.unusedVariables false
theorem mark_at {B : Nat} {W : World} {x : Option Addr} {n cap : Nat} {l : List (Int × Bs)} (h : MarksAt B W (.slice x n cap) l) {k : Nat} {p : Int × Bs} (hk : l[k]? = some p) :
 ∃ g o, x = some ⟨g, o, none⟩ ∧ g < B ∧ ∀ j v, (markC p)[j]? = some v → W.cell? ⟨g, o + k * 33 + j, none⟩ = some v := by
 obtain ⟨g, o, e, hg, hc⟩ := RowB.row h (j := k) (r := markC p) (by rw [List.getElem?_map, hk]; rfl)
 exact ⟨g, o, e, hg, hc⟩
theorem marks_len {B : Nat} {W : World} {x : Option Addr} {n cap : Nat} {l : List (Int × Bs)} (h : MarksAt B W (.slice x n cap) l) : l.length = n := by
 obtain ⟨x', cap', e, -⟩ := h
 cases e
 simp
theorem marks_max {B : Nat} {W : World} {x : Option Addr} {n cap : Nat} {l : List (Int × Bs)} (h : MarksAt B W (.slice x n cap) l) : (n : Int) ≤ 9223372036854775807 := by
 obtain ⟨x', cap', e, h1, h2, -⟩ := h
 cases e
 unfold maxLen at h2
 omega
theorem take_snoc {α : Type} {l : List α} {i : Nat} {p : α} (h : l[i]? = some p) : l.take (i + 1) = l.take i ++ [p] := by rw [List.take_add_one, h]; rfl
set_option maxRecDepth 100000 in
set_option maxHeartbeats 8000000 in
theorem sameMarks_any (x y : Option Addr) (N K ca cb : Nat) (la lb : List (Int × Bs)) (ha : ∀ p ∈ la, p.2.length = 32) (hb : ∀ p ∈ lb, p.2.length = 32) (w : World) (hA : MarksAt w.heap.size w (.slice x N ca) la) (hB : MarksAt w.heap.size w (.slice y K cb) lb) :
 Calls Try.prog 31 #[.slice x N ca, .slice y K cb] w fun e w' => e = .returned (.bool (la == lb)) ∧ Below w.heap.size w w' := by
 have hN := marks_len hA
 have hK := marks_len hB
 have hNm := marks_max hA
 replace hA := Lib.hid hA
 replace hB := Lib.hid hB
 replace ha := Lib.hid ha
 replace hb := Lib.hid hb
 by_cases hl : N = K
 case neg =>
  have hl1 : ¬ (N : Int) = (K : Int) := by omega
  have hs := Lib.hid (show (la == lb) = false by
   rw [beq_eq_false_iff_ne]
   intro e
   rw [e] at hN
   omega)
  clear hN hK
  go_enter Try.func31, Try.ntmps31
  go_wp2
  go_ret
  exact ⟨ret_bool (by rw [hs.out]), .refl _ _⟩
 subst hl
 replace hN := Lib.hid hN
 replace hK := Lib.hid hK
 go_enter Try.func31, Try.ntmps31
 go_wp2_with fail
 go_loopw [5] (fun c wr => ∃ i : Nat, c = .int .i64 (i : Int) ∧ i ≤ N ∧ Hid (la.take i = lb.take i) ∧ Hid (Below w.heap.size w wr))
  (fun c _ => N - (RowKit.intOf c).toNat)
 case atStart => exact ⟨0, rfl, Nat.zero_le _, Lib.hid rfl, Lib.hid (.refl _ _)⟩
 case round =>
  obtain ⟨wi, hwi⟩ : ∃ wi, wi = wr := ⟨_, rfl⟩
  subst hwi
  obtain ⟨i, rfl, hiN, ht, hBl⟩ := hrel
  by_cases hlt : i < N
  case neg =>
   obtain rfl : N = i := by omega
   have hs := Lib.hid (show (la == lb) = true by
    have := ht.out
    rw [List.take_of_length_le (by rw [hN.out]; exact Nat.le_refl _), List.take_of_length_le (by rw [hK.out]; exact Nat.le_refl _)] at this
    rw [this]
    simp)
   clear hlt ht
   go_wp2
   go_ret
   exact ⟨ret_bool (by rw [hs.out]), hBl.out⟩
  have hlt' : (i : Int) < (N : Int) := by omega
  obtain ⟨p, hp⟩ : ∃ p, la[i]? = some p := ⟨_, List.getElem?_eq_getElem (by rw [hN.out]; exact hlt)⟩
  obtain ⟨q, hq⟩ : ∃ q, lb[i]? = some q := ⟨_, List.getElem?_eq_getElem (by rw [hK.out]; exact hlt)⟩
  obtain ⟨g, o, rfl, hg, hpc⟩ := mark_at (hA.out.keep hBl.out (Nat.le_refl _)) hp
  obtain ⟨g2, o2, rfl, hg2, hqc⟩ := mark_at (hB.out.keep hBl.out (Nat.le_refl _)) hq
  have lp := ha.out p (List.mem_of_getElem? hp)
  have lq := hb.out q (List.mem_of_getElem? hq)
  have eM := eqMark p q lp lq
  have sp := Lib.hid (mark_size lp)
  have sq := Lib.hid (mark_size lq)
  have hz := hBl.out.size
  have kp := Lib.hid (show ∀ W, (∃ p : Regrown, W = grow (redrawn wi p.d) p.os) → ∀ j v, (markC p)[j]? = some v → W.cell? ⟨g, o + i * 33 + j, none⟩ = some v by
   rintro W ⟨r, rfl⟩ j v hv
   exact cell_regrown (hpc j v hv) r.d r.os)
  have kq := Lib.hid (show ∀ W, (∃ p : Regrown, W = grow (redrawn wi p.d) p.os) → ∀ j v, (markC q)[j]? = some v → W.cell? ⟨g2, o2 + i * 33 + j, none⟩ = some v by
   rintro W ⟨r, rfl⟩ j v hv
   exact cell_regrown (hqc j v hv) r.d r.os)
  have hltH := Lib.hid hlt
  clear hpc hqc lp lq hlt
  go_upto_region 6 with fail
  refine wp_region_quiet_below (by kernel_rfl) (by kernel_rfl) ?_
  cases hpq : (p == q)
  · have hs := Lib.hid (show (la == lb) = false by
     rw [beq_eq_false_iff_ne]
     intro e
     rw [e, hq] at hp
     cases hp
     simp at hpq)
    simp only [hpq] at eM
    clear hp hq hpq
    repeat (first | (refine wpQuiet_load_part_w rfl 65 _ rfl g (o + i * 33) rfl (markC p) kp.out _ Try.underlying65 rfl sp.out ?_; go_simp) | (refine wpQuiet_load_part_w rfl 65 _ rfl g2 (o2 + i * 33) rfl (markC q) kq.out _ Try.underlying65 rfl sq.out ?_; go_simp) | go_big_quiet_step (fail))
    refine wpQuiet_nil ?_
    intro pq
    obtain ⟨d, os⟩ := pq
    have hB1 := Lib.hid (hBl.out.trans ((below_regrown wi d os).mono hz))
    dsimp only
    clear hBl kp kq
    generalize grow (redrawn wi d) os = w1 at hB1 ⊢
    go_wp2
    go_ret
    exact ⟨ret_bool (by rw [hs.out]), hB1.out⟩
  · have hpe : p = q := by simpa using hpq
    have ht2 := Lib.hid (show la.take (i + 1) = lb.take (i + 1) by rw [take_snoc hp, take_snoc hq, ht.out, hpe])
    simp only [hpq] at eM
    clear hp hq hpq hpe
    repeat (first | (refine wpQuiet_load_part_w rfl 65 _ rfl g (o + i * 33) rfl (markC p) kp.out _ Try.underlying65 rfl sp.out ?_; go_simp) | (refine wpQuiet_load_part_w rfl 65 _ rfl g2 (o2 + i * 33) rfl (markC q) kq.out _ Try.underlying65 rfl sq.out ?_; go_simp) | go_big_quiet_step (fail))
    refine wpQuiet_nil ?_
    intro pq
    obtain ⟨d, os⟩ := pq
    have hB1 := Lib.hid (hBl.out.trans ((below_regrown wi d os).mono hz))
    dsimp only
    clear hBl kp kq
    generalize grow (redrawn wi d) os = w1 at hB1 ⊢
    go_wp2_with fail
    go_roundw
    case rel => exact ⟨i + 1, by go_num, by have := hltH.out; omega, ht2, hB1⟩
    case measure => have := hltH.out; simp [RowKit.intOf]; omega
theorem same_full (a b : Ms) (va vb : Value) (ha : a.ok) (hb : b.ok) (w : World) (hA : MarksAt w.heap.size w va a.marks) (hB : MarksAt w.heap.size w vb b.marks) :
 Calls Try.prog 19 #[.agg (msC a va).toArray, .agg (msC b vb).toArray] w fun e w' => e = .returned (.bool (sameB a b)) ∧ Below w.heap.size w w' := by
 refine same_any a b va vb ha hb w fun W hW => ?_
 have hA' := hA
 have hB' := hB
 obtain ⟨x, ca, rfl, _⟩ := hA'
 obtain ⟨y, cb, rfl, _⟩ := hB'
 exact sameMarks_any x y _ _ ca cb a.marks b.marks ha.marks hb.marks W ((RowB.keep hA hW (Nat.le_refl _)).more hW.size) ((RowB.keep hB hW (Nat.le_refl _)).more hW.size)
theorem carrier_any (c : Int) (w : World) : Calls Try.prog 49 #[.int .i64 c] w fun e w' => e = .returned (.bool (carB c)) ∧ w' = w := by
 have h := Lib.hid (show carB c = (decide (0 ≤ c) && decide (c < 8)) by simp [carB])
 go_enter Try.func49, Try.ntmps49
 by_cases h1 : 0 ≤ c
 · have t1 : decide (0 ≤ c) = true := decide_eq_true h1
   go_wp2
   go_ret
   exact ⟨ret_bool (by rw [h.out, t1]; rfl), rfl⟩
 · have t1 : decide (0 ≤ c) = false := decide_eq_false h1
   go_wp2
   go_ret
   exact ⟨ret_bool (by rw [h.out, t1]; rfl), rfl⟩
theorem outcome_any (c : Oc) (w : World) : Calls Try.prog 50 #[.agg #[.int .i64 c.st, .int .i64 c.wn, .int .u64 (c.pr : Int)]] w fun e w' => e = .returned (.bool (ocB c)) ∧ Below w.heap.size w w' := by
 obtain ⟨s, n, p⟩ := c
 have hB : Below w.heap.size w (w.alloc (.cells #[.int .i64 s, .int .i64 n, .int .u64 (p : Int)] 40)) := (Below.refl _ _).alloc (Nat.le_refl _) _
 by_cases h3 : s = 3
 · subst h3
   have h := Lib.hid (show ocB ⟨3, n, p⟩ = (decide (n = -1) && decide (p = 0)) by simp [ocB])
   by_cases h1 : n = -1
   · subst h1
     by_cases h2 : p = 0
     · subst h2
       go_enter Try.func50, Try.ntmps50
       go_wp2
       go_ret
       exact ⟨ret_bool (by rw [h.out]; rfl), hB⟩
     · have h4 : ¬ (p : Int) = 0 := by omega
       go_enter Try.func50, Try.ntmps50
       go_wp2
       go_ret
       exact ⟨ret_bool (by rw [h.out]; simp [h2]), hB⟩
   · go_enter Try.func50, Try.ntmps50
     go_wp2
     go_ret
     exact ⟨ret_bool (by rw [h.out]; simp [h1]), hB⟩
 · have h := Lib.hid (show ocB ⟨s, n, p⟩ = (decide (s = 2 ∨ s = 4) && (carB n && decide (p ≤ 16777216))) by simp [ocB, h3, carB])
   obtain ⟨cb, hcb⟩ : ∃ cb, carB n = cb := ⟨_, rfl⟩
   have hc := fun W => carrier_any n W
   simp only [hcb] at hc
   rw [hcb] at h
   clear hcb
   have hp : (decide (p ≤ 16777216)) = decide ((p : Int) ≤ 16777216) := by
    rw [Bool.eq_iff_iff]
    simp
    omega
   rw [hp] at h
   clear hp
   by_cases h24 : s = 2 ∨ s = 4
   · have hB2 := Lib.hid hB
     have t0 : decide (s = 2 ∨ s = 4) = true := decide_eq_true h24
     rw [t0] at h
     clear t0 hB
     cases cb
     · rcases h24 with rfl | rfl
       all_goals
        go_enter Try.func50, Try.ntmps50
        go_wp2_with fail
        refine (hc _).mono ?_
        rintro e w1 ⟨rfl, rfl⟩
        go_wp2
        go_ret
        exact ⟨ret_bool (by rw [h.out]; rfl), hB2.out⟩
     · rcases h24 with rfl | rfl
       all_goals
        go_enter Try.func50, Try.ntmps50
        go_wp2_with fail
        refine (hc _).mono ?_
        rintro e w1 ⟨rfl, rfl⟩
        go_wp2
        go_ret
        exact ⟨ret_bool (by rw [h.out]; simp), hB2.out⟩
   · have t0 : decide (s = 2 ∨ s = 4) = false := decide_eq_false h24
     rw [t0] at h
     have h2 : ¬ s = 2 := fun e => h24 (.inl e)
     have h4 : ¬ s = 4 := fun e => h24 (.inr e)
     clear t0 h24 hc
     go_enter Try.func50, Try.ntmps50
     go_wp2
     go_ret
     exact ⟨ret_bool (by rw [h.out]; rfl), hB⟩
end Go.Proofs.Ytpefdmkfmcjfnaa.Ms
namespace Go.Proofs.Ytpefdmkfmcjfnaa.Mp
open Go.RowKit Go.Sort Go.Proofs.Ytpefdmkfmcjfnaa.Mem Go.Proofs.Ytpefdmkfmcjfnaa.Route Go.Proofs.Ytpefdmkfmcjfnaa.Oct Go.Proofs.Ytpefdmkfmcjfnaa.Ms
set_option linter.unusedVariables false
abbrev Mk := Int × Bs
def zM : Mk := (0, zD)
def marksC (L : List Mk) : List Value := (L.map markC).flatten
def markF (i : Nat) : List Fld := (i * 33, Kd.i, 1) :: digF (i * 33 + 1)
def marksF (C : Nat) : List Fld := ((List.range C).map markF).flatten
theorem marksF_next (i : Nat) : marksF (i + 1) = marksF i ++ markF i := by simp [marksF, List.range_succ]
theorem markC_len {p : Mk} (h : p.2.length = 32) : (markC p).length = 33 := by simp [markC, h]
theorem marksC_len {L : List Mk} (h : ∀ p ∈ L, p.2.length = 32) : (marksC L).length = L.length * 33 := by
 induction L with
 | nil => rfl
 | cons p L ih =>
  have h1 := ih fun q hq => h q (List.mem_cons_of_mem _ hq)
  simp only [marksC, List.map_cons, List.flatten_cons, List.length_append, markC_len (h p List.mem_cons_self), List.length_cons] at h1 ⊢
  omega
theorem marksC_get {L : List Mk} (h : ∀ p ∈ L, p.2.length = 32) {i j : Nat} {p : Mk} {x : Value} (hp : L[i]? = some p) (hx : (markC p)[j]? = some x) : (marksC L)[i * 33 + j]? = some x :=
 flat_get (m := 33) (rows := L.map markC) (fun r hr => by obtain ⟨q, hq, rfl⟩ := List.mem_map.1 hr; exact markC_len (h q hq)) i (markC p) (by rw [List.getElem?_map, hp]; rfl) j x hx
theorem typed_mark {L : List Mk} (h : ∀ p ∈ L, p.2.length = 32) {i : Nat} (hi : i < L.length) : Typed (markF i) (marksC L) := by
 obtain ⟨p, hp⟩ : ∃ p, L[i]? = some p := ⟨_, List.getElem?_eq_getElem hi⟩
 have hl := h p (List.mem_of_getElem? hp)
 intro x hx
 simp only [markF, List.mem_cons] at hx
 rcases hx with rfl | hx
 · have := marksC_get h (j := 0) (x := .int .i64 p.1) hp rfl
   exact ⟨p.1, this, fun e => by simp at e⟩
 · simp only [digF, List.mem_map, List.mem_range] at hx
   obtain ⟨j, hj, rfl⟩ := hx
   obtain ⟨d, hd⟩ : ∃ d, p.2[j]? = some d := ⟨_, List.getElem?_eq_getElem (by rw [hl]; exact hj)⟩
   refine ⟨(d.toNat : Int), ?_, fun e => by simp at e⟩
   have := marksC_get h (j := j + 1) (x := u8V d) hp (by simp [markC, hd])
   show (marksC L)[i * 33 + 1 + j]? = _
   rw [show i * 33 + 1 + j = i * 33 + (j + 1) by omega]
   exact this
theorem typed_marks {L : List Mk} (h : ∀ p ∈ L, p.2.length = 32) : Typed (marksF L.length) (marksC L) := by
 intro x hx
 simp only [marksF, List.mem_flatten, List.mem_map, List.mem_range] at hx
 obtain ⟨l, ⟨i, hi, rfl⟩, hx⟩ := hx
 exact typed_mark h hi x hx
theorem Typed.some_marks {C i : Nat} {cs : List Value} (h : Typed (marksF C) cs) (hi : i ≤ C) : Typed (marksF i) cs := by
 intro x hx
 simp only [marksF, List.mem_flatten, List.mem_map, List.mem_range] at hx
 obtain ⟨l, ⟨j, hj, rfl⟩, hx⟩ := hx
 exact h x (by simp only [marksF, List.mem_flatten, List.mem_map, List.mem_range]; exact ⟨_, ⟨j, by omega, rfl⟩, hx⟩)
theorem Typed.mark {C i : Nat} {cs : List Value} (h : Typed (marksF C) cs) (hi : i < C) : Typed (markF i) cs := by
 intro x hx
 exact h x (by simp only [marksF, List.mem_flatten, List.mem_map, List.mem_range]; exact ⟨_, ⟨i, hi, rfl⟩, hx⟩)
def startM (l : List Mk) (C : Nat) : List Mk := l ++ List.replicate (C - l.length) zM
theorem start_len {l : List Mk} {C : Nat} (h : l.length ≤ C) : (startM l C).length = C := by simp [startM]; omega
theorem start_ok {l : List Mk} {C : Nat} (h : ∀ p ∈ l, p.2.length = 32) : ∀ p ∈ startM l C, p.2.length = 32 := by
 intro p hp
 simp only [startM, List.mem_append, List.mem_replicate] at hp
 rcases hp with hp | ⟨-, rfl⟩
 · exact h p hp
 · rfl
theorem rep_flat {α : Type} (l : List α) (m : Nat) (hl : l.length = m) (hm : 0 < m) : ∀ C j : Nat, j < C * m → (List.replicate C l).flatten[j]? = l[j % m]?
 | 0, j, h => by omega
 | C + 1, j, h => by
  rw [List.replicate_succ, List.flatten_cons]
  by_cases hj : j < m
  · rw [List.getElem?_append_left (by omega), Nat.mod_eq_of_lt hj]
  · have h' : j < C * m + m := by rw [← Nat.succ_mul]; exact h
    rw [List.getElem?_append_right (by omega), hl, rep_flat l m hl hm C (j - m) (by omega), ← Nat.mod_eq_sub_mod (by omega : j ≥ m)]
theorem made_marks (C : Nat) : madeCells (markC zM).toArray (C * 33) = (marksC (List.replicate C zM)).toArray := by
 apply Array.ext_getElem?
 intro j
 have hl : (markC zM).length = 33 := rfl
 by_cases hj : j < C * 33
 · have h1 := rep_flat (markC zM) 33 hl (by decide) C j hj
   simp only [marksC, List.map_replicate]
   refine Eq.trans ?_ (List.getElem?_toArray ..).symm
   rw [h1]
   have h2 : j % 33 < (markC zM).length := by rw [hl]; exact Nat.mod_lt _ (by decide)
   rw [List.getElem?_eq_getElem h2]
   simp only [madeCells]
   rw [Array.getElem?_map, Array.getElem?_range, if_pos hj]
   simp only [Option.map_some, List.size_toArray, hl]
   congr 1
   rw [getElem!_pos _ _ (by simpa using h2)]
   simp
 · rw [Array.getElem?_eq_none (by rw [size_madeCells]; omega), Array.getElem?_eq_none]
   have := marksC_len (L := List.replicate C zM) (fun p hp => by rw [(List.mem_replicate.1 hp).2]; rfl)
   simp only [List.size_toArray, this, List.length_replicate]
   omega
theorem info_mark : (Try.prog.info? 65).map (fun i => (i.zero, i.size, i.bytes)) = some (some (.agg (markC zM).toArray), 33, 40) := by kernel_rfl
theorem make_marks (C : Nat) (hC : C ≤ 100000) (w : World) : (Instr.makeSlice 38 (.int .i64 (C : Int)) (.int .i64 (C : Int))).run Try.prog w = .ok (.slice (some ⟨w.heap.size, 0, none⟩) C C) (w.alloc (.cells (marksC (List.replicate C zM)).toArray 65)) := by
 obtain ⟨i0, hi, h0, h1, h2⟩ := info_parts info_mark
 have := run_make w 38 65 i0 _ Try.underlying38 hi h0 .i64 .i64 (C : Int) (C : Int) (by omega) (Int.le_refl _) (by rw [h2]; omega) (by omega)
 rw [h1] at this
 simpa [Value.cells, made_marks] using this
theorem run_copy_rows {P : Program} (w : World) (dT sT ty elem : TypeId) (g o dLen dCap m : Nat) (a : Addr) (sLen sCap : Nat) (cur : Array Value) (t : TypeId) (cs : List Value)
 (hu : P.underlying dT = some (.slice elem)) (hs : (P.info? elem).map (·.size) = some m)
 (hg : w.heap[g]? = some (.cells cur t (0, 0))) (hn : cs.length = Nat.min sLen dLen * m)
 (hsrc : ∀ j v, cs[j]? = some v → w.cell? (a.add j) = some v) (hfit : o + cs.length ≤ cur.size) (h1 : ∀ v ∈ cs, v.oneCell' = true) :
 (Builtin.copy_ #[dT, sT] ty #[.slice (some ⟨g, o, none⟩) dLen dCap, .slice (some a) sLen sCap]).run P w =
  .ok (goInt (Nat.min sLen dLen)) (w.setRow g (cur.toList.take o ++ cs ++ cur.toList.drop (o + cs.length)).toArray) := by
 have hl := run_loadCells_list (P := P) w a cs hsrc
 have hst := run_storeCells_at P g o t cs 0 cur w hg (by simpa using hfit) h1
 cases hq : P.info? elem with
 | none => simp [hq] at hs
 | some i =>
  have hi : i.size = m := by simpa [hq] using hs
  simp [Builtin.copy_, run_underlying hu, Builtin.lenOf, Builtin.firstCells, sizeOf, typeInfo, hq, hi, ← hn, hl, hst]
theorem marks_one {L : List Mk} : ∀ v ∈ marksC L, v.oneCell' = true := by
 intro v hv
 simp only [marksC, List.mem_flatten, List.mem_map] at hv
 obtain ⟨l, ⟨p, -, rfl⟩, hv⟩ := hv
 simp only [markC, List.mem_cons, List.mem_map] at hv
 rcases hv with rfl | ⟨b, -, rfl⟩
 · rfl
 · rfl
theorem copy_marks (C : Nat) (v : Value) (l : List Mk) (B g : Nat) (w : World) (h32 : ∀ p ∈ l, p.2.length = 32) (hv : (l = [] ∧ v = .slice none 0 0) ∨ l.length = C) (hl : MarksAt B w v l) (hA : AtL w g 65 (marksC (List.replicate C zM))) (hC0 : 0 < C) (hgB : B ≤ g) :
 ∃ k : Nat, ∃ W, (Builtin.copy_ #[38, 38] 3 #[.slice (some ⟨g, 0, none⟩) C C, v]).run Try.prog w = .ok (goInt k) W ∧ AtL W g 65 (marksC (startM l C)) ∧ W.os = w.os ∧ W.tape = w.tape ∧ W.output = w.output ∧ W.heap.size = w.heap.size ∧ ∀ j, j ≠ g → W.heap[j]? = w.heap[j]? := by
 have hsz : (Try.prog.info? 65).map (·.size) = some 33 := by kernel_rfl
 rcases hv with ⟨rfl, rfl⟩ | hlC
 · refine ⟨0, w, run_copy_nil (P := Try.prog) w 38 38 3 65 ⟨g, 0, none⟩ C C Try.underlying38 (by rw [hsz]; rfl), ?_, rfl, rfl, rfl, rfl, fun _ _ => rfl⟩
   simpa [startM] using hA
 · obtain ⟨x, cap, e, h1, h2, h3, h4⟩ := hl
   rw [List.length_map] at e h1
   subst e
   have hx : ∃ a, x = some a := by
    cases x with
    | none =>
     have := (h3 rfl).1
     simp at this
     subst this
     simp at hlC
     omega
    | some a => exact ⟨a, rfl⟩
   obtain ⟨a, rfl⟩ := hx
   obtain ⟨sg, so, ea⟩ : ∃ sg so, a = ⟨sg, so, none⟩ := by
    obtain ⟨p, hp⟩ : ∃ p, l[0]? = some p := ⟨_, List.getElem?_eq_getElem (by omega)⟩
    obtain ⟨g', o', e, -⟩ := h4 0 (markC p) (by rw [List.getElem?_map, hp]; rfl)
    exact ⟨g', o', Option.some.inj e⟩
   subst ea
   have hlen := marksC_len h32
   have hcur := marksC_len (L := List.replicate C zM) (fun p hp => by rw [(List.mem_replicate.1 hp).2]; rfl)
   rw [List.length_replicate] at hcur
   have hmin : Nat.min l.length C = C := by rw [hlC]; exact Nat.min_self C
   have hsrc : ∀ j u, (marksC l)[j]? = some u → w.cell? ((⟨sg, so, none⟩ : Addr).add j) = some u := by
    intro j u hu
    obtain ⟨i, k, r, rfl, hr, hk⟩ := flat_of (m := 33) (by decide) (rows := l.map markC) (fun r hr => by obtain ⟨q, hq, rfl⟩ := List.mem_map.1 hr; exact markC_len (h32 q hq)) j u hu
    obtain ⟨g', o', e, -, hc⟩ := h4 i r hr
    cases e
    have hadd : (⟨sg, so, none⟩ : Addr).add (i * 33 + k) = ⟨sg, so + i * 33 + k, none⟩ := by unfold Addr.add; split <;> simp_all [Nat.add_assoc]
    rw [hadd]
    exact hc k u hk
   have := run_copy_rows (P := Try.prog) w 38 38 3 65 g 0 C C 33 ⟨sg, so, none⟩ l.length cap _ 65 (marksC l) Try.underlying38 hsz hA (by rw [hlen, hmin, hlC]) hsrc (by simp only [List.size_toArray, hlen, hcur, hlC]; omega) marks_one
   refine ⟨_, _, this, ?_, rfl, rfl, rfl, setRow_size .., fun j hj => setRow_other w g j _ hj⟩
   have h5 : (marksC (List.replicate C zM)).toArray.toList.take 0 ++ marksC l ++ (marksC (List.replicate C zM)).toArray.toList.drop (0 + (marksC l).length) = marksC (startM l C) := by
    rw [List.drop_eq_nil_of_le (by simp only [hlen, hcur, hlC]; omega)]
    simp [startM, hlC]
   rw [h5]
   exact hA.row _
end Go.Proofs.Ytpefdmkfmcjfnaa.Mp

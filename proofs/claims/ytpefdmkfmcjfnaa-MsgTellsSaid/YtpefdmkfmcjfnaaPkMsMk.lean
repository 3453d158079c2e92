import Derived.Test.YtpefdmkfmcjfnaaPkMsSame

namespace Go.Proofs.Ytpefdmkfmcjfnaa.Mp
open Go.RowKit Go.Sort Go.Proofs.Ytpefdmkfmcjfnaa.Mem Go.Proofs.Ytpefdmkfmcjfnaa.Route Go.Proofs.Ytpefdmkfmcjfnaa.Oct Go.Proofs.Ytpefdmkfmcjfnaa.Ms
set_option linter.unusedVariables false
abbrev Mk := Int × Bs
def zM : Mk := (0, zD)
def marksC (L : List Mk) : List Value := (L.map markC).flatten
def markF (i : Nat) : List Fld := (i * 33, Kd.i, 1) :: digF (i * 33 + 1)
def marksF (C : Nat) : List Fld := ((List.range C).map markF).flatten
theorem marksF_next (i : Nat) : marksF (i + 1) = marksF i ++ markF i := by simp [marksF, List.range_succ]
theorem markC_len {p : Mk} (h : p.2.length = 32) : (markC p).length = 33 := by simp [markC, h]
theorem marksC_len {L : List Mk} (h : ∀ p ∈ L, p.2.length = 32) : (marksC L).length = L.length * 33 := by
 induction L with
 | nil => rfl
 | cons p L ih =>
  have h1 := ih fun q hq => h q (List.mem_cons_of_mem _ hq)
  simp only [marksC, List.map_cons, List.flatten_cons, List.length_append, markC_len (h p List.mem_cons_self), List.length_cons] at h1 ⊢
  omega
theorem marksC_get {L : List Mk} (h : ∀ p ∈ L, p.2.length = 32) {i j : Nat} {p : Mk} {x : Value} (hp : L[i]? = some p) (hx : (markC p)[j]? = some x) : (marksC L)[i * 33 + j]? = some x :=
 flat_get (m := 33) (rows := L.map markC) (fun r hr => by obtain ⟨q, hq, rfl⟩ := List.mem_map.1 hr; exact markC_len (h q hq)) i (markC p) (by rw [List.getElem?_map, hp]; rfl) j x hx
theorem typed_mark {L : List Mk} (h : ∀ p ∈ L, p.2.length = 32) {i : Nat} (hi : i < L.length) : Typed (markF i) (marksC L) := by
 obtain ⟨p, hp⟩ : ∃ p, L[i]? = some p := ⟨_, List.getElem?_eq_getElem hi⟩
 have hl := h p (List.mem_of_getElem? hp)
 intro x hx
 simp only [markF, List.mem_cons] at hx
 rcases hx with rfl | hx
 · have := marksC_get h (j := 0) (x := .int .i64 p.1) hp rfl
   exact ⟨p.1, this, fun e => by simp at e⟩
 · simp only [digF, List.mem_map, List.mem_range] at hx
   obtain ⟨j, hj, rfl⟩ := hx
   obtain ⟨d, hd⟩ : ∃ d, p.2[j]? = some d := ⟨_, List.getElem?_eq_getElem (by rw [hl]; exact hj)⟩
   refine ⟨(d.toNat : Int), ?_, fun e => by simp at e⟩
   have := marksC_get h (j := j + 1) (x := u8V d) hp (by simp [markC, hd])
   show (marksC L)[i * 33 + 1 + j]? = _
   rw [show i * 33 + 1 + j = i * 33 + (j + 1) by omega]
   exact this
theorem typed_marks {L : List Mk} (h : ∀ p ∈ L, p.2.length = 32) : Typed (marksF L.length) (marksC L) := by
 intro x hx
 simp only [marksF, List.mem_flatten, List.mem_map, List.mem_range] at hx
 obtain ⟨l, ⟨i, hi, rfl⟩, hx⟩ := hx
 exact typed_mark h hi x hx
theorem Typed.some_marks {C i : Nat} {cs : List Value} (h : Typed (marksF C) cs) (hi : i ≤ C) : Typed (marksF i) cs := by
 intro x hx
 simp only [marksF, List.mem_flatten, List.mem_map, List.mem_range] at hx
 obtain ⟨l, ⟨j, hj, rfl⟩, hx⟩ := hx
 exact h x (by simp only [marksF, List.mem_flatten, List.mem_map, List.mem_range]; exact ⟨_, ⟨j, by omega, rfl⟩, hx⟩)
theorem Typed.mark {C i : Nat} {cs : List Value} (h : Typed (marksF C) cs) (hi : i < C) : Typed (markF i) cs := by
 intro x hx
 exact h x (by simp only [marksF, List.mem_flatten, List.mem_map, List.mem_range]; exact ⟨_, ⟨i, hi, rfl⟩, hx⟩)
def startM (l : List Mk) (C : Nat) : List Mk := l ++ List.replicate (C - l.length) zM
theorem start_len {l : List Mk} {C : Nat} (h : l.length ≤ C) : (startM l C).length = C := by simp [startM]; omega
theorem start_ok {l : List Mk} {C : Nat} (h : ∀ p ∈ l, p.2.length = 32) : ∀ p ∈ startM l C, p.2.length = 32 := by
 intro p hp
 simp only [startM, List.mem_append, List.mem_replicate] at hp
 rcases hp with hp | ⟨-, rfl⟩
 · exact h p hp
 · rfl
theorem rep_flat {α : Type} (l : List α) (m : Nat) (hl : l.length = m) (hm : 0 < m) : ∀ C j : Nat, j < C * m → (List.replicate C l).flatten[j]? = l[j % m]?
 | 0, j, h => by omega
 | C + 1, j, h => by
  rw [List.replicate_succ, List.flatten_cons]
  by_cases hj : j < m
  · rw [List.getElem?_append_left (by omega), Nat.mod_eq_of_lt hj]
  · have h' : j < C * m + m := by rw [← Nat.succ_mul]; exact h
    rw [List.getElem?_append_right (by omega), hl, rep_flat l m hl hm C (j - m) (by omega), ← Nat.mod_eq_sub_mod (by omega : j ≥ m)]
theorem made_marks (C : Nat) : madeCells (markC zM).toArray (C * 33) = (marksC (List.replicate C zM)).toArray := by
 apply Array.ext_getElem?
 intro j
 have hl : (markC zM).length = 33 := rfl
 by_cases hj : j < C * 33
 · have h1 := rep_flat (markC zM) 33 hl (by decide) C j hj
   simp only [marksC, List.map_replicate]
   refine Eq.trans ?_ (List.getElem?_toArray ..).symm
   rw [h1]
   have h2 : j % 33 < (markC zM).length := by rw [hl]; exact Nat.mod_lt _ (by decide)
   rw [List.getElem?_eq_getElem h2]
   simp only [madeCells]
   rw [Array.getElem?_map, Array.getElem?_range, if_pos hj]
   simp only [Option.map_some, List.size_toArray, hl]
   congr 1
   rw [getElem!_pos _ _ (by simpa using h2)]
   simp
 · rw [Array.getElem?_eq_none (by rw [size_madeCells]; omega), Array.getElem?_eq_none]
   have := marksC_len (L := List.replicate C zM) (fun p hp => by rw [(List.mem_replicate.1 hp).2]; rfl)
   simp only [List.size_toArray, this, List.length_replicate]
   omega
theorem info_mark : (Try.prog.info? 65).map (fun i => (i.zero, i.size, i.bytes)) = some (some (.agg (markC zM).toArray), 33, 40) := by kernel_rfl
theorem make_marks (C : Nat) (hC : C ≤ 100000) (w : World) : (Instr.makeSlice 38 (.int .i64 (C : Int)) (.int .i64 (C : Int))).run Try.prog w = .ok (.slice (some ⟨w.heap.size, 0, none⟩) C C) (w.alloc (.cells (marksC (List.replicate C zM)).toArray 65)) := by
 obtain ⟨i0, hi, h0, h1, h2⟩ := info_parts info_mark
 have := run_make w 38 65 i0 _ Try.underlying38 hi h0 .i64 .i64 (C : Int) (C : Int) (by omega) (Int.le_refl _) (by rw [h2]; omega) (by omega)
 rw [h1] at this
 simpa [Value.cells, made_marks] using this
theorem run_copy_rows {P : Program} (w : World) (dT sT ty elem : TypeId) (g o dLen dCap m : Nat) (a : Addr) (sLen sCap : Nat) (cur : Array Value) (t : TypeId) (cs : List Value)
 (hu : P.underlying dT = some (.slice elem)) (hs : (P.info? elem).map (·.size) = some m)
 (hg : w.heap[g]? = some (.cells cur t (0, 0))) (hn : cs.length = Nat.min sLen dLen * m)
 (hsrc : ∀ j v, cs[j]? = some v → w.cell? (a.add j) = some v) (hfit : o + cs.length ≤ cur.size) (h1 : ∀ v ∈ cs, v.oneCell' = true) :
 (Builtin.copy_ #[dT, sT] ty #[.slice (some ⟨g, o, none⟩) dLen dCap, .slice (some a) sLen sCap]).run P w =
  .ok (goInt (Nat.min sLen dLen)) (w.setRow g (cur.toList.take o ++ cs ++ cur.toList.drop (o + cs.length)).toArray) := by
 have hl := run_loadCells_list (P := P) w a cs hsrc
 have hst := run_storeCells_at P g o t cs 0 cur w hg (by simpa using hfit) h1
 cases hq : P.info? elem with
 | none => simp [hq] at hs
 | some i =>
  have hi : i.size = m := by simpa [hq] using hs
  simp [Builtin.copy_, run_underlying hu, Builtin.lenOf, Builtin.firstCells, sizeOf, typeInfo, hq, hi, ← hn, hl, hst]
theorem marks_one {L : List Mk} : ∀ v ∈ marksC L, v.oneCell' = true := by
 intro v hv
 simp only [marksC, List.mem_flatten, List.mem_map] at hv
 obtain ⟨l, ⟨p, -, rfl⟩, hv⟩ := hv
 simp only [markC, List.mem_cons, List.mem_map] at hv
 rcases hv with rfl | ⟨b, -, rfl⟩
 · rfl
 · rfl
theorem copy_marks (C : Nat) (v : Value) (l : List Mk) (B g : Nat) (w : World) (h32 : ∀ p ∈ l, p.2.length = 32) (hv : (l = [] ∧ v = .slice none 0 0) ∨ l.length = C) (hl : MarksAt B w v l) (hA : AtL w g 65 (marksC (List.replicate C zM))) (hC0 : 0 < C) (hgB : B ≤ g) :
 ∃ k : Nat, ∃ W, (Builtin.copy_ #[38, 38] 3 #[.slice (some ⟨g, 0, none⟩) C C, v]).run Try.prog w = .ok (goInt k) W ∧ AtL W g 65 (marksC (startM l C)) ∧ W.os = w.os ∧ W.tape = w.tape ∧ W.output = w.output ∧ W.heap.size = w.heap.size ∧ ∀ j, j ≠ g → W.heap[j]? = w.heap[j]? := by
 have hsz : (Try.prog.info? 65).map (·.size) = some 33 := by kernel_rfl
 rcases hv with ⟨rfl, rfl⟩ | hlC
 · refine ⟨0, w, run_copy_nil (P := Try.prog) w 38 38 3 65 ⟨g, 0, none⟩ C C Try.underlying38 (by rw [hsz]; rfl), ?_, rfl, rfl, rfl, rfl, fun _ _ => rfl⟩
   simpa [startM] using hA
 · obtain ⟨x, cap, e, h1, h2, h3, h4⟩ := hl
   rw [List.length_map] at e h1
   subst e
   have hx : ∃ a, x = some a := by
    cases x with
    | none =>
     have := (h3 rfl).1
     simp at this
     subst this
     simp at hlC
     omega
    | some a => exact ⟨a, rfl⟩
   obtain ⟨a, rfl⟩ := hx
   obtain ⟨sg, so, ea⟩ : ∃ sg so, a = ⟨sg, so, none⟩ := by
    obtain ⟨p, hp⟩ : ∃ p, l[0]? = some p := ⟨_, List.getElem?_eq_getElem (by omega)⟩
    obtain ⟨g', o', e, -⟩ := h4 0 (markC p) (by rw [List.getElem?_map, hp]; rfl)
    exact ⟨g', o', Option.some.inj e⟩
   subst ea
   have hlen := marksC_len h32
   have hcur := marksC_len (L := List.replicate C zM) (fun p hp => by rw [(List.mem_replicate.1 hp).2]; rfl)
   rw [List.length_replicate] at hcur
   have hmin : Nat.min l.length C = C := by rw [hlC]; exact Nat.min_self C
   have hsrc : ∀ j u, (marksC l)[j]? = some u → w.cell? ((⟨sg, so, none⟩ : Addr).add j) = some u := by
    intro j u hu
    obtain ⟨i, k, r, rfl, hr, hk⟩ := flat_of (m := 33) (by decide) (rows := l.map markC) (fun r hr => by obtain ⟨q, hq, rfl⟩ := List.mem_map.1 hr; exact markC_len (h32 q hq)) j u hu
    obtain ⟨g', o', e, -, hc⟩ := h4 i r hr
    cases e
    have hadd : (⟨sg, so, none⟩ : Addr).add (i * 33 + k) = ⟨sg, so + i * 33 + k, none⟩ := by unfold Addr.add; split <;> simp_all [Nat.add_assoc]
    rw [hadd]
    exact hc k u hk
   have := run_copy_rows (P := Try.prog) w 38 38 3 65 g 0 C C 33 ⟨sg, so, none⟩ l.length cap _ 65 (marksC l) Try.underlying38 hsz hA (by rw [hlen, hmin, hlC]) hsrc (by simp only [List.size_toArray, hlen, hcur, hlC]; omega) marks_one
   refine ⟨_, _, this, ?_, rfl, rfl, rfl, setRow_size .., fun j hj => setRow_other w g j _ hj⟩
   have h5 : (marksC (List.replicate C zM)).toArray.toList.take 0 ++ marksC l ++ (marksC (List.replicate C zM)).toArray.toList.drop (0 + (marksC l).length) = marksC (startM l C) := by
    rw [List.drop_eq_nil_of_le (by simp only [hlen, hcur, hlC]; omega)]
    simp [startM, hlC]
   rw [h5]
   exact hA.row _
theorem Two.below {a b B : Nat} {w v : World} (h : Two a b w v) (ha : B ≤ a) (hb : B ≤ b) (hw : B ≤ w.heap.size) : Below B w v := ⟨h.os, h.tape, h.output, h.size, fun k hk => h.block k (by omega) (by omega) (by omega)⟩
theorem Two.grown {a b n : Nat} {w v : World} (h : Two a b w v) (hn : n = w.heap.size) (hb : n ≤ b) : w.grownBy v (some a) := ⟨h.os, h.tape, h.output, h.size, fun k hk ha => h.block k hk (by simpa using ha) (by omega)⟩
theorem grown_of_below {a : Nat} {w v : World} (h : Below w.heap.size w v) : w.grownBy v (some a) := ⟨h.os, h.tape, h.output, h.size, fun k hk _ => h.block k hk⟩
theorem Two.grown' {a b n : Nat} {u w v : World} (h : Two a b w v) (hn : u.heap.size = n) (hb : n ≤ b) (hu : u.grownBy w (some a)) : u.grownBy v (some a) :=
 ⟨h.os.trans hu.os, h.tape.trans hu.tape, h.output.trans hu.output, Nat.le_trans hu.size h.size, fun k hk ha => (h.block k (Nat.lt_of_lt_of_le hk hu.size) (by simpa using ha) (by omega)).trans (hu.block k hk ha)⟩
def MarksTold (T : Tell) (b C : Nat) (L : List Mk) (s : T.S) (w : World) (u : Value) (w' : World) : Prop :=
 (C = 0 → u = .slice none 0 0) ∧ (0 < C → ∃ q, u = .slice (some ⟨q, 0, none⟩) C C ∧ w.heap.size ≤ q ∧ AtL w' q 65 (T.chain (marksF C) (marksC L, s)).1) ∧ T.At b (T.chain (marksF C) (marksC L, s)).2 w' ∧ w.grownBy w' (some T.own)
set_option maxRecDepth 100000 in
set_option maxHeartbeats 16000000 in
theorem walkMarks_any (T : Tell) (hT : T.fits) (b C B : Nat) (x : Option Addr) (N cap : Nat) (l : List Mk) (s : T.S) (w : World) (h : T.At (b + 264 * C + 8) s w) (hC : (T.step s (toU (N : Int)) 1).1 = C) (hC1 : C ≤ 1000) (h32 : ∀ p ∈ l, p.2.length = 32)
 (hv : (l = [] ∧ Value.slice x N cap = .slice none 0 0) ∨ l.length = C) (hm : MarksAt B w (.slice x N cap) l) (hB : B ≤ T.own) (hBw : B ≤ w.heap.size) :
 Calls Try.prog 41 #[T.tv, .slice x N cap] w fun e w' => ∃ u, e = .returned u ∧ MarksTold T b C (startM l C) (T.step s (toU (N : Int)) 1).2 w u w' := by
 have hNl := marks_len hm
 have hNm := marks_max hm
 obtain ⟨q, hq⟩ : ∃ q, w.heap.size = q := ⟨_, rfl⟩
 have hoi := T.inside h
 have hN := At.new w 3 #[.int .i64 (N : Int)]
 have hBl : Below w.heap.size w (w.alloc (.cells #[.int .i64 (N : Int)] 3)) := (Below.refl _ _).alloc (Nat.le_refl _) _
 obtain ⟨S1, hS1⟩ : ∃ S1, (T.step s (toU (N : Int)) 1).2 = S1 := ⟨_, rfl⟩
 obtain ⟨tv, htv⟩ : ∃ tv, T.tv = tv := ⟨_, rfl⟩
 obtain ⟨ow, how⟩ : ∃ ow, T.own = ow := ⟨_, rfl⟩
 obtain ⟨L, hLe⟩ : ∃ L, startM l C = L := ⟨_, rfl⟩
 rw [htv, hS1, hLe]
 replace hLe := Lib.hid hLe
 rw [how] at hoi hB
 replace how := Lib.hid how
 go_enter Try.func41, Try.ntmps41
 go_upto_region 2 with fail
 rw [hq] at hN hBl hoi hBw
 try simp only [hq]
 generalize w.alloc (.cells #[.int .i64 (N : Int)] 3) = W at hN hBl ⊢
 have hqo : q ≠ ow := by omega
 have hA1 := T.keep h (hBl.block _ (by rw [how.out]; exact hoi))
 have gW : w.grownBy W (some T.own) := grown_of_below (by rw [hq]; exact hBl)
 have hmW := hm.keep hBl hBw
 have hqW : q < W.heap.size := At.inside hN
 replace hq := Lib.hid hq
 clear h hBl
 have f1 := T.field (0, Kd.i, 1) (b + 264 * C) q 3 ([.int .i64 (N : Int)], s) W hA1 hN ⟨_, rfl, fun e => by cases e⟩ (by rw [how.out]; exact hqo)
 have hone : T.chain [(0, Kd.i, 1)] ([Value.int .i64 (N : Int)], s) = ([Value.int .i64 (C : Int)], S1) := by
  have hn0 : numAt [Value.int .i64 (N : Int)] 0 = toU (N : Int) := rfl
  simp only [Tell.chain, Tell.one, hn0, hS1, hC, Kd.back, Kd.cell, List.set_cons_zero]
  rw [show wrap64 (C : Int) = C from by unfold wrap64; omega]
 rw [htv] at f1
 replace f1 := Lib.hid f1
 replace hone := Lib.hid hone
 clear hA1 hN hS1 hC
 go_wp2_with fail
 refine f1.out.mono ?_
 rintro e w1 ⟨rfl, d1⟩
 have hQ := d1.cs
 have hT1 := d1.st
 rw [hone.out] at hQ hT1
 have hm1 := hmW.keep (d1.two.below (B := B) (by rw [how.out]; exact hB) hBw (by omega)) (Nat.le_refl _)
 have g1 : w.grownBy w1 (some T.own) := d1.two.grown' hq.out (Nat.le_refl _) gW
 have hz1 : q < w1.heap.size := Nat.lt_of_lt_of_le hqW d1.two.size
 have c1 := hQ.cell 0
 simp at c1
 clear f1 d1 hm hmW gW hqW hQ hone
 replace hT1 := Lib.hid hT1
 replace hm1 := Lib.hid hm1
 replace g1 := Lib.hid g1
 by_cases hC0 : C = 0
 · subst hC0
   simp only [show ((0 : Nat) : Int) = 0 from rfl] at c1
   go_wp2
   go_ret
   exact ⟨_, rfl, fun _ => rfl, fun h => absurd h (by omega), hT1.out, g1.out⟩
 · have hC2 : ((C : Int) == 0) = false := by rw [beq_eq_false_iff_ne]; omega
   have hC3 : (C : Int) ≤ 1000 := by omega
   have hmk := make_marks C (by omega) w1
   have hA2 := AtL.new w1 65 (marksC (List.replicate C zM))
   have hB2 : Below w1.heap.size w1 (w1.alloc (.cells (marksC (List.replicate C zM)).toArray 65)) := (Below.refl _ _).alloc (Nat.le_refl _) _
   obtain ⟨r, hr⟩ : ∃ r, w1.heap.size = r := ⟨_, rfl⟩
   rw [hr] at hA2 hB2 hmk hz1
   generalize w1.alloc (.cells (marksC (List.replicate C zM)).toArray 65) = w2 at hmk hA2 hB2
   have hm2 := hm1.out.keep hB2 (by omega)
   obtain ⟨k, w3, hcp, hA3, e1, e2, e3, e4, e5⟩ := copy_marks C (.slice x N cap) l B r w2 h32 hv hm2 hA2 (by omega) (by omega)
   have hro : r ≠ ow := by omega
   have hT3 : T.At (b + 264 * C) S1 w3 := T.keep (T.keep hT1.out (hB2.block _ (by rw [how.out]; omega))) (e5 _ (by rw [how.out]; omega))
   have g3 : w.grownBy w3 (some T.own) := by
    have h1 := g1.out
    exact ⟨(e1.trans hB2.os).trans h1.os, (e2.trans hB2.tape).trans h1.tape, (e3.trans hB2.output).trans h1.output, Nat.le_trans h1.size (by have := hB2.size; omega), fun j hj ha => (e5 j (by have := hq.out; omega)).trans ((hB2.block j (by have := hq.out; omega)).trans (h1.block j hj ha))⟩
   have hz3 : r < w3.heap.size := hA3.inside
   replace hA3 := Lib.hid hA3
   replace hT3 := Lib.hid hT3
   replace g3 := Lib.hid g3
   replace hm1 := hm1.out
   replace hr := Lib.hid hr
   have hL := start_len (C := C) (l := l) (by rcases hv with ⟨rfl, -⟩ | h; exact Nat.zero_le _; omega)
   have hLo := start_ok (C := C) h32
   rw [hLe.out] at hL hLo hA3
   have hty := typed_marks hLo
   rw [hL] at hty
   replace hty := Lib.hid hty
   clear hA2 hB2 hm2 e1 e2 e3 e4 e5 hLe hLo hL hm1 hT1 g1 hv h32
   go_upto_region 7 with (at_builtin; refine Lib.wpList_copy_run _ rfl _ _ _ _ rfl _ _ rfl rfl hcp ?_)
   clear hcp hmk c1
   have hrq : q ≤ r := by omega
   have hD0 : Hid (Does T r 65 (b + 264 * (C - 0)) (marksF 0) (marksC L, S1) w3 w3) := Lib.hid (Does.nil hT3.out hA3.out)
   have hrq2 := Lib.hid hrq
   clear hA3 hT3 hz1 hz3 hrq hB hBw hoi hqo
   go_wp2_with fail
   go_loopw [21] (fun c wr => ∃ i : Nat, c = .int .i64 (i : Int) ∧ i ≤ C ∧ Hid (Does T r 65 (b + 264 * (C - i)) (marksF i) (marksC L, S1) w3 wr))
    (fun c _ => C - (RowKit.intOf c).toNat)
   case atStart => exact ⟨0, rfl, by omega, hD0⟩
   case round =>
    obtain ⟨wi, hwi⟩ : ∃ wi, wi = wr := ⟨_, rfl⟩
    subst hwi
    obtain ⟨i, rfl, hi, hD⟩ := hrel
    clear hD0
    by_cases hlt : i < C
    case neg =>
     obtain rfl : C = i := by omega
     have hD2 := hD.out
     rw [Nat.sub_self] at hD2
     have hg : w.grownBy wi (some T.own) := Two.grown' hD2.two hq.out hrq2.out g3.out
     have hres : MarksTold T b C L S1 w (.slice (some ⟨r, 0, none⟩) C C) wi := ⟨fun h => absurd h hC0, fun _ => ⟨r, rfl, by rw [hq.out]; exact hrq2.out, hD2.cs⟩, hD2.st, hg⟩
     replace hres := Lib.hid hres
     clear hD hD2 hg g3 hlt
     go_wp2_with fail
     go_ret
     exact ⟨_, rfl, hres.out⟩
    have hlt' : (i : Int) < (C : Int) := by omega
    have tA : Typed (marksF i) (marksC L) := hty.out.some_marks hi
    have tB : Typed (markF i) (T.chain (marksF i) (marksC L, S1)).1 := Typed.chain hT tA (hty.out.mark hlt)
    have f1 := T.field (i * 33, Kd.i, 1) (b + 264 * (C - (i + 1)) + 8 * 32) r 65 (T.chain (marksF i) (marksC L, S1)) wi (T.less hD.out.st (by omega)) hD.out.cs (tB _ List.mem_cons_self) (by rw [how.out]; exact hro)
    rw [htv] at f1
    replace f1 := Lib.hid f1
    replace tB := Lib.hid tB
    have hltH := Lib.hid hlt
    clear hlt tA
    go_wp2_with fail
    refine f1.out.mono ?_
    rintro e w4 ⟨rfl, d1⟩
    have f2 := walkDigest_any T hT r (i * 33 + 1) (b + 264 * (C - (i + 1))) 65 _ w4 d1.st d1.cs (Typed.chain hT (l := [(i * 33, Kd.i, 1)]) (fun y hy => tB.out y (by rw [List.mem_singleton] at hy; subst hy; exact List.mem_cons_self)) (fun y hy => tB.out y (List.mem_cons_of_mem _ hy))) (by rw [how.out]; exact hro)
    rw [htv] at f2
    replace f2 := Lib.hid f2
    replace d1 := Lib.hid d1
    clear f1
    go_wp2_with fail
    refine f2.out.mono ?_
    rintro e w5 ⟨rfl, d2⟩
    have d3 := d1.out.trans d2
    have d4 := hD.out.trans d3
    rw [show [((i * 33, Kd.i, 1) : Fld)] ++ digF (i * 33 + 1) = markF i from rfl, ← marksF_next] at d4
    replace d4 := Lib.hid d4
    clear f2 d1 d2 d3 hD
    go_wp2_with fail
    go_roundw
    case rel => exact ⟨i + 1, by go_num, by have := hltH.out; omega, d4⟩
    case measure => have := hltH.out; simp [RowKit.intOf]; omega
end Go.Proofs.Ytpefdmkfmcjfnaa.Mp

import Derived.Test.YtpefdmkfmcjfnaaPkMsField

namespace Go.Proofs.Ytpefdmkfmcjfnaa.Mp
open Go.RowKit Go.Sort Go.Proofs.Ytpefdmkfmcjfnaa.Mem Go.Proofs.Ytpefdmkfmcjfnaa.Route Go.Proofs.Ytpefdmkfmcjfnaa.Oct
set_option linter.unusedVariables false
theorem put_len (s : Bs) (n : Nat) (k : Int) : (putB s n k).length ≤ s.length + 8 := by
 unfold putB
 split
 · rename_i h
   simp [isW] at h
   split
   · rw [List.length_append, laidL_length]
     omega
   · simp
 · simp
theorem numS_max {s : St} {k : Int} (h : ∀ l, s = some l → l.length ≤ 9223372036854775000) : ∀ l, (numS s k).2 = some l → l.length ≤ 9223372036854775000 := by
 intro l hl
 cases s with
 | none => cases hl
 | some m =>
  have := h m rfl
  simp only [numS] at hl
  split at hl
  · cases hl
    rw [List.length_drop]
    omega
  · cases hl
theorem numS_u64 (s : St) (k : Int) : (numS s k).1 < 18446744073709551616 := by
 cases s with
 | none => exact (by decide : (0 : Nat) < 18446744073709551616)
 | some l =>
  simp only [numS]
  split
  · rename_i h
    simp [getOk] at h
    have h1 := num_lt (l.take k.toNat)
    have h2 : (l.take k.toNat).length ≤ 8 := by rw [List.length_take]; omega
    exact Nat.lt_of_lt_of_le h1 (Nat.le_trans (Nat.pow_le_pow_right (by omega) (by omega : 8 * (l.take k.toNat).length ≤ 64)) (by decide))
  · decide
inductive Kd where
 | i
 | u
 | b
def Kd.cell : Kd → Int → Value
 | .i, n => .int .i64 n
 | .u, n => .int .u64 n
 | .b, n => .int .u8 n
def Kd.back : Kd → Nat → Int
 | .i, U => wrap64 (U : Int)
 | .u, U => (U : Int)
 | .b, U => IntKind.u8.wrap (U : Int)
def toU (n : Int) : Nat := (IntKind.u64.wrap n).toNat
theorem toU_eq (n : Int) : IntKind.u64.wrap n = (toU n : Int) := by
 unfold toU
 have : 0 ≤ IntKind.u64.wrap n := by
  unfold IntKind.wrap
  exact Int.emod_nonneg _ (by decide)
 omega
theorem toU_lt (n : Int) : toU n < 18446744073709551616 := by
 have h := toU_eq n
 have : IntKind.u64.wrap n < 18446744073709551616 := by
  unfold IntKind.wrap
  exact Int.emod_lt_of_pos _ (by decide)
 omega
theorem toU_nat {n : Int} (h0 : 0 ≤ n) (h1 : n < 18446744073709551616) : toU n = n.toNat := by
 unfold toU IntKind.wrap
 congr 1
 exact Int.emod_eq_of_lt h0 h1
structure Tell where
 tv : Value
 own : Nat
 S : Type
 At : Nat → S → World → Prop
 step : S → Nat → Int → Nat × S
 keep : ∀ {b : Nat} {s : S} {w v : World}, At b s w → v.heap[own]? = w.heap[own]? → At b s v
 inside : ∀ {b : Nat} {s : S} {w : World}, At b s w → own < w.heap.size
 less : ∀ {b b' : Nat} {s : S} {w : World}, At b s w → b' ≤ b → At b' s w
 fI : ∀ (b : Nat) (s : S) (g o : Nat) (t : TypeId) (cs : List Value) (n : Int) (k : Int) (w : World), At (b + 8) s w → AtL w g t cs → cs[o]? = some (.int .i64 n) → g ≠ own →
  Calls Try.prog 38 #[tv, .pointer (some ⟨g, o, none⟩), .int .i64 k] w fun e w' => e = .returned (.tuple #[]) ∧ At b (step s (toU n) k).2 w' ∧ AtL w' g t (cs.set o (.int .i64 (wrap64 ((step s (toU n) k).1 : Int)))) ∧ Two own g w w'
 fU : ∀ (b : Nat) (s : S) (g o : Nat) (t : TypeId) (cs : List Value) (n : Nat) (k : Int) (w : World), n < 18446744073709551616 → At (b + 8) s w → AtL w g t cs → cs[o]? = some (.int .u64 (n : Int)) → g ≠ own →
  Calls Try.prog 42 #[tv, .pointer (some ⟨g, o, none⟩), .int .i64 k] w fun e w' => e = .returned (.tuple #[]) ∧ At b (step s n k).2 w' ∧ AtL w' g t (cs.set o (.int .u64 ((step s n k).1 : Int))) ∧ Two own g w w'
 fB : ∀ (b : Nat) (s : S) (g o : Nat) (t : TypeId) (cs : List Value) (n : Int) (k : Int) (w : World), At (b + 8) s w → AtL w g t cs → cs[o]? = some (.int .u8 n) → g ≠ own →
  Calls Try.prog 58 #[tv, .pointer (some ⟨g, o, none⟩), .int .i64 k] w fun e w' => e = .returned (.tuple #[]) ∧ At b (step s (toU n) k).2 w' ∧ AtL w' g t (cs.set o (.int .u8 (IntKind.u8.wrap ((step s (toU n) k).1 : Int)))) ∧ Two own g w w'
abbrev Fld := Nat × Kd × Int
def numAt (cs : List Value) (o : Nat) : Nat :=
 match cs[o]? with
 | some (.int _ n) => toU n
 | _ => 0
def Tell.one (T : Tell) (x : Fld) (p : List Value × T.S) : List Value × T.S := (p.1.set x.1 (x.2.1.cell (x.2.1.back (T.step p.2 (numAt p.1 x.1) x.2.2).1)), (T.step p.2 (numAt p.1 x.1) x.2.2).2)
def Tell.chain (T : Tell) : List Fld → List Value × T.S → List Value × T.S
 | [], p => p
 | x :: l, p => T.chain l (T.one x p)
theorem chain_append (T : Tell) (l m : List Fld) : ∀ p, T.chain (l ++ m) p = T.chain m (T.chain l p) := by
 induction l with
 | nil => intro p; rfl
 | cons x l ih => intro p; exact ih _
def Is (x : Fld) (cs : List Value) : Prop := ∃ n : Int, cs[x.1]? = some (x.2.1.cell n) ∧ (x.2.1 = .u → 0 ≤ n ∧ n < 18446744073709551616)
def Typed (l : List Fld) (cs : List Value) : Prop := ∀ x ∈ l, Is x cs
def Tell.fits (T : Tell) : Prop := ∀ s n k, n < 18446744073709551616 → (T.step s n k).1 < 18446744073709551616
theorem numAt_lt (cs : List Value) (o : Nat) : numAt cs o < 18446744073709551616 := by
 unfold numAt
 split
 · exact toU_lt _
 · decide
theorem Is.one {T : Tell} (hT : T.fits) {x y : Fld} {p : List Value × T.S} (hx : Is x p.1) (hy : Is y p.1) : Is y (T.one x p).1 := by
 obtain ⟨o, k, m⟩ := x
 obtain ⟨o', k', m'⟩ := y
 obtain ⟨n, h1, h2⟩ := hx
 obtain ⟨n', h1', h2'⟩ := hy
 simp only at h1 h2 h1' h2'
 by_cases ho : o = o'
 · subst ho
   rw [h1] at h1'
   have hk : k = k' := by
    cases k <;> cases k' <;> first | rfl | (simp [Kd.cell] at h1')
   subst hk
   refine ⟨_, by simp [Tell.one, (List.getElem?_eq_some_iff.1 h1).1]; rfl, ?_⟩
   intro hu
   simp only at hu
   subst hu
   have := hT p.2 (numAt p.1 o) m (numAt_lt _ _)
   simp only [Kd.back]
   omega
 · refine ⟨n', ?_, h2'⟩
   simp only [Tell.one]
   rw [List.getElem?_set_ne ho]
   exact h1'
theorem Typed.chain {T : Tell} (hT : T.fits) {l m : List Fld} : ∀ {p : List Value × T.S}, Typed l p.1 → Typed m p.1 → Typed m (T.chain l p).1 := by
 induction l with
 | nil => intro p _ h; exact h
 | cons x l ih =>
  intro p hl hm
  have hx := hl x List.mem_cons_self
  exact ih (fun y hy => Is.one hT hx (hl y (List.mem_cons_of_mem _ hy))) (fun y hy => Is.one hT hx (hm y hy))
theorem Typed.left {l m : List Fld} {cs : List Value} (h : Typed (l ++ m) cs) : Typed l cs := fun x hx => h x (List.mem_append_left _ hx)
theorem Typed.right {l m : List Fld} {cs : List Value} (h : Typed (l ++ m) cs) : Typed m cs := fun x hx => h x (List.mem_append_right _ hx)
structure Does (T : Tell) (g : Nat) (t : TypeId) (b : Nat) (l : List Fld) (p : List Value × T.S) (w w' : World) : Prop where
 st : T.At b (T.chain l p).2 w'
 cs : AtL w' g t (T.chain l p).1
 two : Two T.own g w w'
theorem Does.nil {T : Tell} {g : Nat} {t : TypeId} {b : Nat} {p : List Value × T.S} {w : World} (h : T.At b p.2 w) (hA : AtL w g t p.1) : Does T g t b [] p w w := ⟨h, hA, .refl _ _ _⟩
theorem Does.trans {T : Tell} {g : Nat} {t : TypeId} {b c : Nat} {l m : List Fld} {p : List Value × T.S} {u v w : World} (h : Does T g t c l p u v) (k : Does T g t b m (T.chain l p) v w) : Does T g t b (l ++ m) p u w :=
 ⟨by rw [chain_append]; exact k.st, by rw [chain_append]; exact k.cs, h.two.trans k.two⟩
theorem Two.at {a b q : Nat} {w v : World} {t : TypeId} {cs : Array Value} (h : Two a b w v) (hA : Mem.At w q t cs) (ha : q ≠ a) (hb : q ≠ b) : Mem.At v q t cs := (h.block q hA.inside ha hb).trans hA
theorem Does.below {T : Tell} {g : Nat} {t : TypeId} {b : Nat} {l : List Fld} {p : List Value × T.S} {u v w : World} (h : Does T g t b l p u v) (hb : Below v.heap.size v w) : Does T g t b l p u w :=
 ⟨T.keep h.st (hb.block _ (T.inside h.st)), h.cs.keep hb h.cs.inside, h.two.trans (.of_below hb)⟩
def Kd.fn : Kd → Nat
 | .i => 38
 | .u => 42
 | .b => 58
theorem Tell.field (T : Tell) (x : Fld) (b g : Nat) (t : TypeId) (p : List Value × T.S) (w : World) (h : T.At (b + 8) p.2 w) (hA : AtL w g t p.1) (hx : Is x p.1) (hg : g ≠ T.own) :
 Calls Try.prog x.2.1.fn #[T.tv, .pointer (some ⟨g, x.1, none⟩), .int .i64 x.2.2] w fun e w' => e = .returned (.tuple #[]) ∧ Does T g t b [x] p w w' := by
 obtain ⟨o, k, m⟩ := x
 obtain ⟨n, h1, h2⟩ := hx
 simp only at h1 h2 ⊢
 cases k with
 | i =>
  refine (T.fI b p.2 g o t p.1 n m w h hA h1 hg).mono ?_
  rintro e w' ⟨rfl, a, c, d⟩
  have hn : numAt p.1 o = toU n := by simp [numAt, h1, Kd.cell]
  exact ⟨rfl, by simp only [Tell.chain, Tell.one, hn]; exact a, by simp only [Tell.chain, Tell.one, hn]; exact c, d⟩
 | u =>
  obtain ⟨h3, h4⟩ := h2 rfl
  obtain ⟨N, rfl⟩ : ∃ N : Nat, n = N := ⟨n.toNat, by omega⟩
  refine (T.fU b p.2 g o t p.1 N m w (by omega) h hA h1 hg).mono ?_
  rintro e w' ⟨rfl, a, c, d⟩
  have hn : numAt p.1 o = N := by
   simp only [numAt, h1, Kd.cell]
   rw [toU_nat h3 h4]
   rfl
  exact ⟨rfl, by simp only [Tell.chain, Tell.one, hn]; exact a, by simp only [Tell.chain, Tell.one, hn]; exact c, d⟩
 | b =>
  refine (T.fB b p.2 g o t p.1 n m w h hA h1 hg).mono ?_
  rintro e w' ⟨rfl, a, c, d⟩
  have hn : numAt p.1 o = toU n := by simp [numAt, h1, Kd.cell]
  exact ⟨rfl, by simp only [Tell.chain, Tell.one, hn]; exact a, by simp only [Tell.chain, Tell.one, hn]; exact c, d⟩
def Wr (g : Nat) : Tell where
 tv := .iface 73 (.pointer (some ⟨g, 0, none⟩))
 own := g
 S := Bs
 At := fun b s w => WrAt w g s ∧ s.length + b ≤ 281474976710000
 step := fun s n k => (n, putB s n k)
 keep := fun h e => ⟨e.trans h.1, h.2⟩
 inside := fun h => h.1.inside
 less := fun h e => ⟨h.1, by have := h.2; omega⟩
 fI := fun b s r o t cs n k w h hA hv hg => by
  refine (wfieldI g s r o t cs n (toU n) (toU_eq n) k w (toU_lt n) (by have := h.2; omega) h.1 hA hv hg).mono ?_
  rintro e w' ⟨rfl, a, c, d⟩
  exact ⟨rfl, ⟨a, by have h1 := put_len s (toU n) k; have h2 := h.2; exact (by omega : (putB s (toU n) k).length + b ≤ 281474976710000)⟩, c, d⟩
 fU := fun b s r o t cs n k w hn h hA hv hg => by
  refine (wfieldU g s r o t cs n k w hn (by have := h.2; omega) h.1 hA hv hg).mono ?_
  rintro e w' ⟨rfl, a, c, d⟩
  exact ⟨rfl, ⟨a, by have h1 := put_len s n k; have h2 := h.2; exact (by omega : (putB s n k).length + b ≤ 281474976710000)⟩, c, d⟩
 fB := fun b s r o t cs n k w h hA hv hg => by
  refine (wfieldB g s r o t cs n (toU n) (toU_eq n) k w (toU_lt n) (by have := h.2; omega) h.1 hA hv hg).mono ?_
  rintro e w' ⟨rfl, a, c, d⟩
  exact ⟨rfl, ⟨a, by have h1 := put_len s (toU n) k; have h2 := h.2; exact (by omega : (putB s (toU n) k).length + b ≤ 281474976710000)⟩, c, d⟩
def Rd (r : Nat) : Tell where
 tv := .iface 106 (.agg #[.pointer (some ⟨r, 0, none⟩)])
 own := r
 S := St
 At := fun b s w => RdAt w r s ∧ ∀ l, s = some l → l.length ≤ 9223372036854775000
 step := fun s _ k => numS s k
 keep := fun h e => ⟨e.trans h.1, h.2⟩
 inside := fun h => h.1.inside
 less := fun h _ => h
 fI := fun b s g o t cs n k w h hA hv hg => by
  refine (rfieldI r s g o t cs n (toU n) (toU_eq n) k w h.2 h.1 hA hv hg).mono ?_
  rintro e w' ⟨rfl, a, c, d⟩
  exact ⟨rfl, ⟨a, numS_max h.2⟩, c, d⟩
 fU := fun b s g o t cs n k w hn h hA hv hg => by
  refine (rfieldU r s g o t cs n k w h.2 h.1 hA hv hg).mono ?_
  rintro e w' ⟨rfl, a, c, d⟩
  exact ⟨rfl, ⟨a, numS_max h.2⟩, c, d⟩
 fB := fun b s g o t cs n k w h hA hv hg => by
  refine (rfieldB r s g o t cs n (toU n) (toU_eq n) k w h.2 h.1 hA hv hg).mono ?_
  rintro e w' ⟨rfl, a, c, d⟩
  exact ⟨rfl, ⟨a, numS_max h.2⟩, c, d⟩
theorem Wr_fits (g : Nat) : (Wr g).fits := fun s n k h => h
theorem Rd_fits (r : Nat) : (Rd r).fits := fun s n k h => numS_u64 s k
def digF (o : Nat) : List Fld := (List.range 32).map fun j => (o + j, Kd.b, 1)
theorem digF_len (o : Nat) : (digF o).length = 32 := by simp [digF]
theorem digF_get {o i : Nat} (h : i < 32) : (digF o)[i]? = some (o + i, Kd.b, 1) := by simp [digF, h]
theorem take_next {α : Type} {l : List α} {i : Nat} {p : α} (h : l[i]? = some p) : l.take (i + 1) = l.take i ++ [p] := by rw [List.take_add_one, h]; rfl
set_option maxRecDepth 100000 in
set_option maxHeartbeats 8000000 in
theorem walkDigest_any (T : Tell) (hT : T.fits) (g o b : Nat) (t : TypeId) (p : List Value × T.S) (w : World) (h : T.At (b + 8 * 32) p.2 w) (hA : AtL w g t p.1) (hty : Typed (digF o) p.1) (hg : g ≠ T.own) :
 Calls Try.prog 40 #[T.tv, .pointer (some ⟨g, o, none⟩)] w fun e w' => e = .returned (.tuple #[]) ∧ Does T g t b (digF o) p w w' := by
 have hD0 := Lib.hid (Does.nil h hA)
 have hF := Lib.hid (fun (i : Nat) (hi : i < 32) (W : World) (hD : Does T g t (b + 8 * (32 - i)) ((digF o).take i) p w W) =>
  T.field (o + i, Kd.b, 1) (b + 8 * (32 - (i + 1))) g t (T.chain ((digF o).take i) p) W (T.less hD.st (by omega)) hD.cs
   (Typed.chain hT (m := [(o + i, Kd.b, 1)]) (fun x hx => hty x (List.mem_of_mem_take hx)) (fun x hx => by rw [List.mem_singleton] at hx; subst hx; exact hty _ (List.mem_of_getElem? (digF_get hi))) _ List.mem_cons_self) hg)
 clear h hA hty
 obtain ⟨tv, htv⟩ : ∃ tv, T.tv = tv := ⟨_, rfl⟩
 simp only [htv] at hF ⊢
 clear htv
 go_enter Try.func40, Try.ntmps40
 go_wp2_with fail
 go_loopw [5] (fun c wr => ∃ i : Nat, c = .int .i64 (i : Int) ∧ i ≤ 32 ∧ Hid (Does T g t (b + 8 * (32 - i)) ((digF o).take i) p w wr))
  (fun c _ => 32 - (RowKit.intOf c).toNat)
 case atStart => exact ⟨0, rfl, by omega, hD0⟩
 case round =>
  obtain ⟨wi, hwi⟩ : ∃ wi, wi = wr := ⟨_, rfl⟩
  subst hwi
  obtain ⟨i, rfl, hi, hD⟩ := hrel
  clear hD0
  by_cases hlt : i < 32
  case neg =>
   obtain rfl : i = 32 := by omega
   have hD2 := hD.out
   rw [List.take_of_length_le (by rw [digF_len]; omega)] at hD2
   replace hD2 := Lib.hid (show Does T g t b (digF o) p w wi from hD2)
   clear hD hF
   go_wp2_with fail
   refine bodyPost_end (results_none rfl _ _ _) rfl ?_
   exact ⟨rfl, hD2.out⟩
  have hlt' : (i : Int) < 32 := by omega
  have hc := Lib.hid (hF.out i hlt wi hD.out)
  have hltH := Lib.hid hlt
  clear hF hlt
  go_wp2_with fail
  refine hc.out.mono ?_
  rintro e w1 ⟨rfl, hD1⟩
  have hD3 := Lib.hid (hD.out.trans hD1)
  rw [← take_next (digF_get hltH.out)] at hD3
  clear hD1 hc hD
  go_wp2_with fail
  go_roundw
  case rel => exact ⟨i + 1, by go_num, by have := hltH.out; omega, hD3⟩
  case measure => have := hltH.out; simp [RowKit.intOf]; omega
structure Done (T : Tell) (g : Nat) (t : TypeId) (b : Nat) (r : List Value × T.S) (w w' : World) : Prop where
 st : T.At b r.2 w'
 cs : AtL w' g t r.1
 two : Two T.own g w w'
theorem Does.done {T : Tell} {g : Nat} {t : TypeId} {b : Nat} {l : List Fld} {p : List Value × T.S} {w w' : World} (h : Does T g t b l p w w') : Done T g t b (T.chain l p) w w' := ⟨h.st, h.cs, h.two⟩
theorem Done.then {T : Tell} {g : Nat} {t : TypeId} {b c : Nat} {p r : List Value × T.S} {u v w : World} (h : Done T g t c p u v) (k : Done T g t b r v w) : Done T g t b r u w := ⟨k.st, k.cs, h.two.trans k.two⟩
theorem Two.more {a g q : Nat} {u v w : World} (h : Two a g u v) (k : Two a q v w) (hq : u.heap.size ≤ q) : Two a g u w :=
 ⟨k.os.trans h.os, k.tape.trans h.tape, k.output.trans h.output, Nat.le_trans h.size k.size, fun j hj ha hb => (k.block j (Nat.lt_of_lt_of_le hj h.size) ha (by omega)).trans (h.block j hj ha hb)⟩
theorem Two.atL {a b q : Nat} {w v : World} {t : TypeId} {cs : List Value} (h : Two a b w v) (hA : AtL w q t cs) (ha : q ≠ a) (hb : q ≠ b) : AtL v q t cs := (h.block q hA.inside ha hb).trans hA
def winAt (cs : List Value) (o : Nat) : Int :=
 match cs[o]? with
 | some (.int _ n) => n
 | _ => 0
def outS (T : Tell) (o : Nat) (p : List Value × T.S) : List Value × T.S :=
 let a := T.one (o, Kd.i, 1) p
 let b := T.one (0, Kd.i, 1) ([.int .i64 (wrap64 (winAt p.1 (o + 1) + 1))], a.2)
 let c := T.one (o + 2, Kd.u, 8) (a.1, b.2)
 (c.1.set (o + 1) (.int .i64 (wrap64 (winAt b.1 0 - 1))), c.2)
theorem one_int (T : Tell) (o : Nat) (m : Int) (p : List Value × T.S) (h : Is (o, Kd.i, m) p.1) : ∃ n, (T.one (o, Kd.i, m) p).1[o]? = some (.int .i64 n) := by
 obtain ⟨n, h1, -⟩ := h
 exact ⟨_, by simp [Tell.one, (List.getElem?_eq_some_iff.1 h1).1]; rfl⟩
set_option maxRecDepth 100000 in
set_option maxHeartbeats 8000000 in
theorem walkOutcome_any (T : Tell) (hT : T.fits) (g o b : Nat) (t : TypeId) (p : List Value × T.S) (w : World) (h : T.At (b + 24) p.2 w) (hA : AtL w g t p.1) (h0 : Is (o, Kd.i, 1) p.1) (wn : Int) (h1 : p.1[o + 1]? = some (.int .i64 wn)) (h2 : Is (o + 2, Kd.u, 8) p.1) (hg : g ≠ T.own) :
 Calls Try.prog 43 #[T.tv, .pointer (some ⟨g, o, none⟩)] w fun e w' => e = .returned (.tuple #[]) ∧ Done T g t b (outS T o p) w w' := by
 have hw : winAt p.1 (o + 1) = wn := by simp [winAt, h1]
 have hgi := hA.inside
 have hoi := T.inside h
 have c1 := hA.get h1
 have hW1 : Is (o + 1, Kd.i, 1) p.1 := ⟨wn, h1, by intro e; cases e⟩
 have hN := At.new w 3 #[.int .i64 (wrap64 (wn + 1))]
 have hB : Below w.heap.size w (w.alloc (.cells #[.int .i64 (wrap64 (wn + 1))] 3)) := (Below.refl _ _).alloc (Nat.le_refl _) _
 obtain ⟨tv, htv⟩ : ∃ tv, T.tv = tv := ⟨_, rfl⟩
 rw [htv]
 go_enter Try.func43, Try.ntmps43
 go_upto_region 1 with fail
 obtain ⟨q, hq⟩ : ∃ q, w.heap.size = q := ⟨_, rfl⟩
 rw [hq] at hN hB hgi hoi
 simp only [hq]
 generalize w.alloc (.cells #[.int .i64 (wrap64 (wn + 1))] 3) = W at hN hB ⊢
 have hqg : q ≠ g := by omega
 have hqo : q ≠ T.own := by omega
 have hA1 := hA.keep hB hgi
 have hS1 := T.keep h (hB.block _ hoi)
 have tW : Two T.own g w W := Two.of_below (by rw [hq]; exact hB)
 replace hq := Lib.hid hq
 clear hA h hB
 have f1 := T.field (o, Kd.i, 1) (b + 16) g t p W hS1 hA1 h0 hg
 rw [htv] at f1
 replace f1 := Lib.hid f1
 clear hA1 hS1
 go_wp2_with fail
 refine f1.out.mono ?_
 rintro e w1 ⟨rfl, d1⟩
 have hN1 := d1.two.at hN hqo hqg
 have hA1 := d1.cs
 have hS1 := d1.st
 have t1 := tW.trans d1.two
 simp only [Tell.chain] at hA1 hS1
 have i1 : Is (o + 1, Kd.i, 1) (T.one (o, Kd.i, 1) p).1 := Is.one hT h0 hW1
 have i2 : Is (o + 2, Kd.u, 8) (T.one (o, Kd.i, 1) p).1 := Is.one hT h0 h2
 have f2 := T.field (0, Kd.i, 1) (b + 8) q 3 ([.int .i64 (wrap64 (wn + 1))], (T.one (o, Kd.i, 1) p).2) w1 hS1 hN1 ⟨_, rfl, by intro e; cases e⟩ hqo
 rw [htv] at f2
 replace f2 := Lib.hid f2
 replace hA1 := Lib.hid hA1
 clear f1 d1 hN hS1 hN1 c1
 go_wp2_with fail
 refine f2.out.mono ?_
 rintro e w2 ⟨rfl, d2⟩
 have hQ2 := d2.cs
 have hS2 := d2.st
 have hA2 := d2.two.atL hA1.out hg (Ne.symm hqg)
 have t2 := t1.more d2.two (by rw [hq.out]; exact Nat.le_refl _)
 simp only [Tell.chain] at hQ2 hS2
 obtain ⟨n2, e2⟩ := one_int T 0 1 ([.int .i64 (wrap64 (wn + 1))], (T.one (o, Kd.i, 1) p).2) ⟨_, rfl, by intro e; cases e⟩
 have hw2 : winAt (T.one (0, Kd.i, 1) ([.int .i64 (wrap64 (wn + 1))], (T.one (o, Kd.i, 1) p).2)).1 0 = n2 := by simp [winAt, e2]
 have f3 := T.field (o + 2, Kd.u, 8) b g t ((T.one (o, Kd.i, 1) p).1, (T.one (0, Kd.i, 1) ([.int .i64 (wrap64 (wn + 1))], (T.one (o, Kd.i, 1) p).2)).2) w2 hS2 hA2 i2 hg
 rw [htv] at f3
 replace f3 := Lib.hid f3
 replace hQ2 := Lib.hid hQ2
 clear f2 d2 hA1 hA2 hS2 t1 tW
 go_wp2_with fail
 refine f3.out.mono ?_
 rintro e w3 ⟨rfl, d3⟩
 have hQ3 := d3.two.atL hQ2.out hqo hqg
 have q3 := hQ3.get e2
 have hA3 := d3.cs
 have hS3 := d3.st
 have t3 := t2.trans d3.two
 simp only [Tell.chain] at hA3 hS3
 obtain ⟨m3, k3, -⟩ := Is.one hT (p := ((T.one (o, Kd.i, 1) p).1, (T.one (0, Kd.i, 1) ([.int .i64 (wrap64 (wn + 1))], (T.one (o, Kd.i, 1) p).2)).2)) i2 i1
 have c3 := hA3.get k3
 have fr3 := hA3.free (o + 1)
 have hA4 := Lib.hid (hA3.put (o + 1) (.int .i64 (wrap64 (n2 - 1))))
 have t4 := Lib.hid (t3.trans (Two.set T.own g w3 (o + 1) (.int .i64 (wrap64 (n2 - 1)))))
 have hS4 := Lib.hid (T.keep hS3 (Below.heap_setCell w3 ⟨g, o + 1, none⟩ (.int .i64 (wrap64 (n2 - 1))) T.own (by simpa using Ne.symm hg)))
 have hres : outS T o p = ((T.one (o + 2, Kd.u, 8) ((T.one (o, Kd.i, 1) p).1, (T.one (0, Kd.i, 1) ([.int .i64 (wrap64 (wn + 1))], (T.one (o, Kd.i, 1) p).2)).2)).1.set (o + 1) (.int .i64 (wrap64 (n2 - 1))), (T.one (o + 2, Kd.u, 8) ((T.one (o, Kd.i, 1) p).1, (T.one (0, Kd.i, 1) ([.int .i64 (wrap64 (wn + 1))], (T.one (o, Kd.i, 1) p).2)).2)).2) := by
  simp only [outS, hw, hw2]
 replace hres := Lib.hid hres
 clear f3 d3 hA3 hS3 hQ3 hQ2 t3 t2 hw hw2 i1 i2 h0 h1 h2 hW1 k3
 go_wp2
 refine bodyPost_end (results_none rfl _ _ _) rfl ?_
 refine ⟨rfl, ?_⟩
 rw [hres.out]
 exact ⟨hS4.out, hA4.out, t4.out⟩
end Go.Proofs.Ytpefdmkfmcjfnaa.Mp

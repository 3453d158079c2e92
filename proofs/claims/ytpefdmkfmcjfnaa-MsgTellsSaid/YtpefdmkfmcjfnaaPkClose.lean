import Derived.Test.YtpefdmkfmcjfnaaPkDfDig
import Derived.Test.YtpefdmkfmcjfnaaPkMsWorks
import Derived.Lib.SmallJoins

namespace Go.Proofs.Ytpefdmkfmcjfnaa
open Go.ChangeShapes Go.WideShapes Go.ChangeAt Go.RowKit
namespace Close
variable {H : Type} {enc : TypeId × Value → H} {P : Program}
def allRead (P : Program) (ts : List TypeId) : Bool := ts.all fun t => P.readableRec t && decide (t < P.types.size)
theorem below_trodAll (hl : laidOutB P = true) {W W' : World} (hb : Below W.heap.size W W') :
 ∀ {ts : List TypeId} {vs : List Value} {ds : List (DataW H)} {ps : List MemPlace}, allRead P ts = true →
  DataW.TrodAll enc P W 0 (fun _ => true) true ts vs ds ps → (∀ p ∈ ps, p.block < W.heap.size) →
  DataW.TrodAll enc P W' 0 (fun b => decide (b < W.heap.size)) true ts vs ds ps := by
 intro ts
 induction ts with
 | nil =>
  intro vs ds ps _ h _
  obtain ⟨rfl, rfl, rfl⟩ := trodAll_nil h
  exact h
 | cons t ts ih =>
  intro vs ds ps ha h hlt
  obtain ⟨v, vs', d, ds', p, q, rfl, rfl, rfl, h0, h1⟩ := trodAll_cons h
  simp only [allRead, List.all_cons, Bool.and_eq_true, decide_eq_true_eq] at ha
  have h0' := Below.trod hl ha.1.1 ha.1.2 h0 hb (fun x hx => hlt x (List.mem_append_left _ hx))
  have h1' := ih ha.2 h1 (fun x hx => hlt x (List.mem_append_right _ hx))
  exact trodAll_cons_mk h0' h1'
theorem law_post {f : Func} {s : ChangeSpec} {W W' : World} {args : Array Value} {ds gs : List (DataW H)} {before : List MemPlace} {tb : TypeId}
 (hl : laidOutB P = true) (hts : allRead P f.params.toList = true) (hvars : s.vars = []) (hres : f.resultTypes = #[tb]) (htb : P.underlying tb = some .bool)
 (hW : DataW.Whole enc P f.params.toList s.vars false W args.toList ds gs before)
 (hout : s.fn H (ds ++ gs) = { results := [.lit (.bool true)], args := ds }) (hb : Below W.heap.size W W') :
 s.post enc P f false true false false W args (.bool true) W' := by
 have hlt : ∀ p ∈ before, p.block < W.heap.size := fun p hp => hW.lt p hp
 have hW' := hW
 obtain ⟨p, q, hA, hV, rfl, _, _⟩ := hW
 rw [hvars] at hV
 obtain ⟨rfl, rfl⟩ := trodVars_none hV
 refine ⟨ds, [], p ++ [], [], p, [], hW', ?_, ?_, ?_, ?_, fun h => by cases h⟩
 · rw [hout, hres]
   exact trodAll_cons_mk (shut_bool htb _) trodAll_mk0
 · rw [hout]
   exact below_trodAll hl hb hts hA (fun x hx => hlt x (by simpa using hx))
 · rw [hvars, hout]
   rfl
 · refine World.keptBut_mono (fun x hx => ⟨hx, .inr (.inl ?_)⟩) (hb.frame (· ∈ p ++ []))
   simpa using hx
end Close
theorem own : ownKnob Try.prog.godebug = none := by kernel_rfl
theorem laidOut : laidOutB Try.prog = true := by kernel_rfl
end Go.Proofs.Ytpefdmkfmcjfnaa
namespace Go.Proofs.Ytpefdmkfmcjfnaa.Oct
open Go.ChangeShapes Go.WideShapes Go.ChangeAt Go.RowKit Go.Proofs.Ytpefdmkfmcjfnaa.Mem Go.Proofs.Ytpefdmkfmcjfnaa.Route
set_option linter.unusedVariables false
theorem int_ends {k : IntKind} {x : Int} (h : (Lit.int k x).wf = true) : k.min ≤ x ∧ x ≤ k.max := (Lit.wf_int_iff _ _).1 h
theorem u8_nat {x : Int} (h : (Lit.int .u8 x).wf = true) : ∃ n : Nat, x = (n : Int) ∧ n < 256 := by
 have := int_ends h
 simp [IntKind.min, IntKind.max, IntKind.bits, IntKind.signed] at this
 exact ⟨x.toNat, by omega, by omega⟩
theorem u16_nat {x : Int} (h : (Lit.int .u16 x).wf = true) : ∃ n : Nat, x = (n : Int) ∧ n < 65536 := by
 have := int_ends h
 simp [IntKind.min, IntKind.max, IntKind.bits, IntKind.signed] at this
 exact ⟨x.toNat, by omega, by omega⟩
theorem u64_nat {x : Int} (h : (Lit.int .u64 x).wf = true) : ∃ n : Nat, x = (n : Int) ∧ n < 18446744073709551616 := by
 have := int_ends h
 simp [IntKind.min, IntKind.max, IntKind.bits, IntKind.signed] at this
 exact ⟨x.toNat, by omega, by omega⟩
theorem i64_ends {x : Int} (h : (Lit.int .i64 x).wf = true) : -9223372036854775808 ≤ x ∧ x ≤ 9223372036854775807 := by
 have := int_ends h
 simp [IntKind.min, IntKind.max, IntKind.bits, IntKind.signed] at this
 omega
theorem exists_list {α : Type} {P : Nat → α → Prop} : ∀ {n : Nat}, (∀ i, i < n → ∃ x, P i x) → ∃ l : List α, l.length = n ∧ ∀ i x, l[i]? = some x → P i x
 | 0, _ => ⟨[], rfl, fun i x h => by simp at h⟩
 | n + 1, h => by
  obtain ⟨l, hl, hp⟩ := exists_list (n := n) (fun i hi => h i (by omega))
  obtain ⟨x, hx⟩ := h n (by omega)
  refine ⟨l ++ [x], by simp [hl], fun i y hy => ?_⟩
  rcases Nat.lt_or_ge i l.length with hi | hi
  · rw [List.getElem?_append_left hi] at hy
    exact hp i y hy
  · rw [List.getElem?_append_right hi] at hy
    have h0 : i - l.length = 0 := by have := (List.getElem?_eq_some_iff.1 hy).1; simp at this; omega
    rw [h0] at hy
    simp at hy
    subst hy
    rw [show i = n by omega]
    exact hx
theorem addOff (g o i : Nat) : (⟨g, o, none⟩ : Addr).add i = ⟨g, o + i, none⟩ := by unfold Addr.add; split <;> simp_all
theorem addAdd (g o i j : Nat) : ((⟨g, o, none⟩ : Addr).add i).add j = ⟨g, o + i + j, none⟩ := by rw [addOff, addOff]
section
variable {H : Type} {enc : TypeId × Value → H} {w : World} {base : Nat} {spare : Nat → Bool} {held : Bool}
theorem rows_of {α : Type} {t e : TypeId} {m : Nat} {f : α → List Value} {g : α → Prop} (ht : Try.prog.underlying t = some (.slice e)) (hc : Try.prog.cellsOf e = m) (hm : 0 < m)
 (hel : ∀ (n : Nat) (cs : List Value) (y : DataW H × List MemPlace), DataW.trod enc Try.prog w base spare held n e cs = some y → cs.length = m → ∃ x : α, cs = f x ∧ g x)
 {fuel : Nat} {v : Value} {x : DataW H × List MemPlace} (h : DataW.trod enc Try.prog w base spare held fuel t [v] = some x) :
 ∃ l : List α, RowB w.heap.size w v m (l.map f) ∧ ∀ y ∈ l, g y := by
 rcases DataW.trod_slice ht h with ⟨hcs, _⟩ | ⟨a, len, cap, elems, rest, n, _, hcs, _, hb, hl, hcap, hlen, hall, _, _⟩
 · simp at hcs
   exact ⟨[], ⟨none, 0, hcs, Nat.le_refl _, Nat.zero_le _, fun _ => ⟨rfl, rfl⟩, fun j r hj => by simp at hj⟩, fun y hy => by cases hy⟩
 · simp at hcs
   subst hcs
   rw [hc] at hall
   obtain ⟨l, hll, hP⟩ := exists_list (n := len) (P := fun i x => w.cells? base (a.add (i * m)) m = some (f x) ∧ g x) (fun i hi => by
    have h1 := hall i hi
    rw [List.getElem?_eq_getElem (by omega), Option.bind_eq_some_iff] at h1
    obtain ⟨cs, hcs, hy⟩ := h1
    obtain ⟨x, rfl, hg⟩ := hel n cs _ hy (World.cells?_some hcs).2.1
    exact ⟨x, hcs, hg⟩)
   refine ⟨l, ⟨some a, cap, by simp [hll], by simp [hll]; exact hl, hcap, fun e => (by cases e), fun j r hj => ?_⟩, fun y hy => ?_⟩
   · rw [List.getElem?_map] at hj
     obtain ⟨y, hy, rfl⟩ := Option.map_eq_some_iff.1 hj
     have hl0 : 0 < l.length := by have := (List.getElem?_eq_some_iff.1 hy).1; omega
     have h1 := (hP j y hy).1
     have h2 := World.cells?_some h1
     have h0 := World.cells?_some (hP 0 _ (List.getElem?_eq_getElem hl0)).1
     obtain ⟨b, off, spot⟩ := a
     have hspot : spot = none := by
      have hc0 : (f l[0])[0]? = some ((f l[0])[0]'(by rw [h0.2.1]; exact hm)) := List.getElem?_eq_getElem _
      have := h0.2.2 0 hm
      rw [hc0] at this
      simpa [Addr.add] using World.cell?_spot this
     subst hspot
     refine ⟨b, off, rfl, ?_, fun k u hk => ?_⟩
     · have := World.cells?_block h1 hm
       rw [show ((⟨b, off, none⟩ : Addr).add (j * m)).block = b by unfold Addr.add; split <;> rfl] at this
       exact this
     · have hkm : k < m := by rw [← h2.2.1]; exact (List.getElem?_eq_some_iff.1 hk).1
       have := h2.2.2 k hkm
       rw [hk, addAdd] at this
       exact this
   · obtain ⟨i, hi⟩ := List.getElem?_of_mem hy
     exact (hP i y hi).2
theorem list1T {α : Type} {cs : List α} (h : cs.length = 1) : ∃ a, cs = [a] := by
 match cs, h with
 | [a], _ => exact ⟨a, rfl⟩
theorem list2T {α : Type} {cs : List α} (h : cs.length = 2) : ∃ a b, cs = [a, b] := by
 match cs, h with
 | [a, b], _ => exact ⟨a, b, rfl⟩
theorem fieldS {P : Program} {t : TypeId} {fs : Array Field} {fuel : Nat} {cs : List Value} {x : DataW H × List MemPlace} (ht : P.underlying t = some (.struct fs)) (h : DataW.trod enc P w base spare held fuel t cs = some x) {i : Nat} {f : Field} (hf : fs[i]? = some f) :
 ∃ n y, DataW.trod enc P w base spare held n f.type ((cs.drop f.offset).take (P.cellsOf f.type)) = some y := by
 obtain ⟨xs, n, _, _, _, hlen, hall⟩ := DataW.trod_struct ht h
 have h1 := hall i f hf
 have hi : i < fs.size := (Array.getElem?_eq_some_iff.1 hf).1
 rw [List.getElem?_eq_getElem (by omega)] at h1
 exact ⟨n, _, h1⟩
theorem cellsU8 : Try.prog.cellsOf 5 = 1 := by kernel_rfl
end
end Go.Proofs.Ytpefdmkfmcjfnaa.Oct
namespace Go.Proofs.Ytpefdmkfmcjfnaa.Df
open Go.ChangeShapes Go.WideShapes Go.ChangeAt Go.RowKit Go.Proofs.Ytpefdmkfmcjfnaa.Mem Go.Proofs.Ytpefdmkfmcjfnaa.Route Go.Proofs.Ytpefdmkfmcjfnaa.Oct Go.Proofs.Ytpefdmkfmcjfnaa.Ms Go.Proofs.Ytpefdmkfmcjfnaa.Mp
set_option linter.unusedVariables false
section
variable {H : Type} {enc : TypeId × Value → H} {w : World} {base : Nat} {spare : Nat → Bool} {held : Bool}
theorem ints_of {t e : TypeId} {n : Nat} {q : IntKind} (ht : Try.prog.underlying t = some (.array n e)) (he : Try.prog.underlying e = some (.int q)) (hc : Try.prog.cellsOf e = 1) {fuel : Nat} {cs : List Value} {x : DataW H × List MemPlace} (hl : cs.length = n)
 (h : DataW.trod enc Try.prog w base spare held fuel t cs = some x) {i : Nat} (hi : i < n) : ∃ k : Int, cs[i]? = some (.int q k) ∧ (Lit.int q k).wf = true := by
 obtain ⟨xs, m, _, _, _, hlen, hel⟩ := DataW.trod_array ht h
 have h1 := hel i hi
 rw [hc, Nat.mul_one, List.drop_eq_getElem_cons (by omega : i < cs.length), List.take_succ_cons, List.take_zero] at h1
 rw [List.getElem?_eq_getElem (by omega : i < xs.length)] at h1
 obtain ⟨k, hk, _, hw⟩ := DataW.trod_int he h1
 simp at hk
 exact ⟨k, by rw [List.getElem?_eq_getElem (by omega : i < cs.length), hk], hw⟩
theorem list12 {α : Type} {cs : Array α} (h : cs.size = 12) : ∃ c0 c1 c2 c3 c4 c5 c6 c7 c8 c9 c10 c11, cs = #[c0, c1, c2, c3, c4, c5, c6, c7, c8, c9, c10, c11] := by
 obtain ⟨l⟩ := cs
 match l, h with
 | [c0, c1, c2, c3, c4, c5, c6, c7, c8, c9, c10, c11], _ => exact ⟨c0, c1, c2, c3, c4, c5, c6, c7, c8, c9, c10, c11, rfl⟩
theorem cells16 : Try.prog.cellsOf 22 = 1 := by kernel_rfl
theorem cells64 : Try.prog.cellsOf 24 = 1 := by kernel_rfl
theorem cellsA8 : Try.prog.cellsOf 23 = 8 := by kernel_rfl
theorem cellsA2 : Try.prog.cellsOf 25 = 2 := by kernel_rfl
theorem cellsBs : Try.prog.cellsOf 26 = 1 := by kernel_rfl
theorem byte_nat {x : Int} (h : (Lit.int .u8 x).wf = true) : ∃ b : UInt8, Value.int .u8 x = u8V b := by
 obtain ⟨n, rfl, hn⟩ := u8_nat h
 exact ⟨UInt8.ofNat n, by rw [u8V, UInt8.toNat_ofNat', Nat.mod_eq_of_lt (by simpa using hn)]⟩
set_option maxRecDepth 100000 in
theorem openDraft {r : Reach} {b0 : Nat} {v : Value} {d : DataW H} {p : List MemPlace} (hv : Value.okWide Try.prog w r b0 28 v) (h : DataW.Trod enc Try.prog w base spare held 28 v d p) :
 ∃ (x : Option Addr) (L cap : Nat) (dr : Dr), v = .agg (drC dr (.slice x L cap)).toArray ∧ BytesAt w.heap.size w (.slice x L cap) dr.bs ∧ dr.ok := by
 obtain ⟨cs, rfl, hsz⟩ := okWide_struct Try.underlying28 hv
 obtain ⟨c0, c1, c2, c3, c4, c5, c6, c7, c8, c9, c10, c11, rfl⟩ := list12 (hsz.trans (by kernel_rfl))
 obtain ⟨fuel, hf⟩ := h
 obtain ⟨_, _, h0⟩ := fieldS (i := 0) Try.underlying28 hf rfl
 obtain ⟨_, _, h1⟩ := fieldS (i := 1) Try.underlying28 hf rfl
 obtain ⟨_, _, h2⟩ := fieldS (i := 2) Try.underlying28 hf rfl
 obtain ⟨_, _, h3⟩ := fieldS (i := 3) Try.underlying28 hf rfl
 simp [Value.cells, cellsU8, cellsA8, cellsA2, cellsBs] at h0 h1 h2 h3
 obtain ⟨kd, hk, _, wk⟩ := DataW.trod_int Try.underlying5 h0
 simp at hk
 subst hk
 obtain ⟨kd, rfl, bk⟩ := u8_nat wk
 have hN := fun i hi => ints_of Try.underlying23 Try.underlying22 cells16 rfl h1 (i := i) hi
 obtain ⟨k0, e0, w0⟩ := hN 0 (by decide)
 obtain ⟨k1, e1, w1⟩ := hN 1 (by decide)
 obtain ⟨k2, e2, w2⟩ := hN 2 (by decide)
 obtain ⟨k3, e3, w3⟩ := hN 3 (by decide)
 obtain ⟨k4, e4, w4⟩ := hN 4 (by decide)
 obtain ⟨k5, e5, w5⟩ := hN 5 (by decide)
 obtain ⟨k6, e6, w6⟩ := hN 6 (by decide)
 obtain ⟨k7, e7, w7⟩ := hN 7 (by decide)
 have hBg := fun i hi => ints_of Try.underlying25 Try.underlying24 cells64 rfl h2 (i := i) hi
 obtain ⟨k8, e8, w8⟩ := hBg 0 (by decide)
 obtain ⟨k9, e9, w9⟩ := hBg 1 (by decide)
 simp at e0 e1 e2 e3 e4 e5 e6 e7 e8 e9
 subst e0 e1 e2 e3 e4 e5 e6 e7 e8 e9
 obtain ⟨n0, rfl, b0'⟩ := u16_nat w0
 obtain ⟨n1, rfl, b1'⟩ := u16_nat w1
 obtain ⟨n2, rfl, b2'⟩ := u16_nat w2
 obtain ⟨n3, rfl, b3'⟩ := u16_nat w3
 obtain ⟨n4, rfl, b4'⟩ := u16_nat w4
 obtain ⟨n5, rfl, b5'⟩ := u16_nat w5
 obtain ⟨n6, rfl, b6'⟩ := u16_nat w6
 obtain ⟨n7, rfl, b7'⟩ := u16_nat w7
 obtain ⟨g0, rfl, b8'⟩ := u64_nat w8
 obtain ⟨g1, rfl, b9'⟩ := u64_nat w9
 obtain ⟨bs, hb1, -⟩ := rows_of (f := byC) (g := fun _ => True) Try.underlying26 cellsU8 (by decide) (fun n cs y hy hl => by
  obtain ⟨a, rfl⟩ := list1T hl
  obtain ⟨k, hk, _, hw⟩ := DataW.trod_int Try.underlying5 hy
  simp at hk
  subst hk
  obtain ⟨b, hb⟩ := byte_nat hw
  exact ⟨b, by rw [byC, hb], trivial⟩) h3
 obtain ⟨xb, cb, rfl, _⟩ := id hb1
 exact ⟨xb, _, cb, ⟨kd, n0, n1, n2, n3, n4, n5, n6, n7, g0, g1, bs⟩, rfl, by simpa [BytesAt] using hb1, ⟨bk, b0', b1', b2', b3', b4', b5', b6', b7', b8', b9'⟩⟩
end
section
variable {H : Type} {enc : TypeId × Value → H} {w : World} {base : Nat} {spare : Nat → Bool} {held : Bool}
theorem cellsNt : Try.prog.cellsOf 3 = 1 := by kernel_rfl
theorem cellsPlc : Try.prog.cellsOf 31 = 2 := by kernel_rfl
theorem cellsWin : Try.prog.cellsOf 33 = 2 := by kernel_rfl
theorem cellsReq : Try.prog.cellsOf 35 = 10 := by kernel_rfl
theorem cellsDig : Try.prog.cellsOf 37 = 32 := by kernel_rfl
theorem cellsMrk : Try.prog.cellsOf 65 = 33 := by kernel_rfl
theorem cellsMks : Try.prog.cellsOf 38 = 1 := by kernel_rfl
theorem cellsOut : Try.prog.cellsOf 40 = 3 := by kernel_rfl
theorem int_one {n : Nat} {c : Value} {y : DataW H × List MemPlace} (h : DataW.trod enc Try.prog w base spare held n 3 [c] = some y) : ∃ x : Int, c = .int .i64 x ∧ I64 x := by
 obtain ⟨k, hk, _, hw⟩ := DataW.trod_int Try.underlying3 h
 simp at hk
 exact ⟨k, hk, i64_ends hw⟩
theorem u64_one {n : Nat} {c : Value} {y : DataW H × List MemPlace} (h : DataW.trod enc Try.prog w base spare held n 24 [c] = some y) : ∃ x : Nat, c = .int .u64 (x : Int) ∧ x < 18446744073709551616 := by
 obtain ⟨k, hk, _, hw⟩ := DataW.trod_int Try.underlying24 h
 simp at hk
 obtain ⟨x, rfl, hx⟩ := u64_nat hw
 exact ⟨x, hk, hx⟩
theorem dig_of {n : Nat} {cs : List Value} {y : DataW H × List MemPlace} (hl : cs.length = 32) (h : DataW.trod enc Try.prog w base spare held n 37 cs = some y) : ∃ D : Bs, cs = D.map u8V ∧ D.length = 32 := by
 have hN := fun i hi => ints_of Try.underlying37 Try.underlying5 cellsU8 hl h (i := i) hi
 obtain ⟨D, hD, hp⟩ := exists_list (n := 32) (P := fun i (b : UInt8) => cs[i]? = some (u8V b)) (fun i hi => by
  obtain ⟨k, hk, hw⟩ := hN i hi
  obtain ⟨b, hb⟩ := byte_nat hw
  exact ⟨b, by rw [hk, hb]⟩)
 refine ⟨D, List.ext_getElem? fun i => ?_, hD⟩
 rw [List.getElem?_map]
 rcases Nat.lt_or_ge i 32 with hi | hi
 · obtain ⟨b, hb⟩ : ∃ b, D[i]? = some b := ⟨_, List.getElem?_eq_getElem (by omega)⟩
   rw [hb, hp i b hb]
   rfl
 · rw [List.getElem?_eq_none (by omega), List.getElem?_eq_none (by omega)]
   rfl
theorem place_of {n : Nat} {a b : Value} {y : DataW H × List MemPlace} (h : DataW.trod enc Try.prog w base spare held n 31 [a, b] = some y) : ∃ x z : Int, a = .int .i64 x ∧ b = .int .i64 z := by
 obtain ⟨_, _, h0⟩ := fieldS (i := 0) Try.underlying31 h rfl
 obtain ⟨_, _, h1⟩ := fieldS (i := 1) Try.underlying31 h rfl
 simp [cellsNt] at h0 h1
 obtain ⟨x, hx, _⟩ := int_one h0
 obtain ⟨z, hz, _⟩ := int_one h1
 exact ⟨x, z, hx, hz⟩
theorem window_of {n : Nat} {a b : Value} {y : DataW H × List MemPlace} (h : DataW.trod enc Try.prog w base spare held n 33 [a, b] = some y) : ∃ x z : Int, a = .int .i64 x ∧ b = .int .i64 z := by
 obtain ⟨_, _, h0⟩ := fieldS (i := 0) Try.underlying33 h rfl
 obtain ⟨_, _, h1⟩ := fieldS (i := 1) Try.underlying33 h rfl
 simp [cellsNt] at h0 h1
 obtain ⟨x, hx, _⟩ := int_one h0
 obtain ⟨z, hz, _⟩ := int_one h1
 exact ⟨x, z, hx, hz⟩
theorem list10M {α : Type} {cs : List α} (h : cs.length = 10) : ∃ c0 c1 c2 c3 c4 c5 c6 c7 c8 c9, cs = [c0, c1, c2, c3, c4, c5, c6, c7, c8, c9] := by
 match cs, h with
 | [c0, c1, c2, c3, c4, c5, c6, c7, c8, c9], _ => exact ⟨c0, c1, c2, c3, c4, c5, c6, c7, c8, c9, rfl⟩
theorem req_of {n : Nat} {cs : List Value} {y : DataW H × List MemPlace} (hl : cs.length = 10) (h : DataW.trod enc Try.prog w base spare held n 35 cs = some y) : ∃ r : Rq, cs = rqC r := by
 obtain ⟨a0, a1, a2, a3, a4, a5, a6, a7, a8, a9, rfl⟩ := list10M hl
 obtain ⟨_, _, h0⟩ := fieldS (i := 0) Try.underlying35 h rfl
 obtain ⟨_, _, h1⟩ := fieldS (i := 1) Try.underlying35 h rfl
 obtain ⟨_, _, h2⟩ := fieldS (i := 2) Try.underlying35 h rfl
 obtain ⟨_, _, h3⟩ := fieldS (i := 3) Try.underlying35 h rfl
 obtain ⟨_, _, h4⟩ := fieldS (i := 4) Try.underlying35 h rfl
 obtain ⟨_, _, h5⟩ := fieldS (i := 5) Try.underlying35 h rfl
 simp [cellsNt, cellsPlc, cellsWin] at h0 h1 h2 h3 h4 h5
 obtain ⟨x0, x1, rfl, rfl⟩ := place_of h0
 obtain ⟨x2, x3, rfl, rfl⟩ := place_of h1
 obtain ⟨x4, x5, rfl, rfl⟩ := window_of h2
 obtain ⟨x6, x7, rfl, rfl⟩ := window_of h3
 obtain ⟨x8, rfl, _⟩ := int_one h4
 obtain ⟨x9, rfl, _⟩ := int_one h5
 exact ⟨⟨x0, x1, x2, x3, x4, x5, x6, x7, x8, x9⟩, rfl⟩
theorem mark_of {n : Nat} {cs : List Value} {y : DataW H × List MemPlace} (h : DataW.trod enc Try.prog w base spare held n 65 cs = some y) (hl : cs.length = 33) : ∃ p : Mk, cs = markC p ∧ p.2.length = 32 := by
 match cs, hl with
 | c :: r, hl =>
  have hr : r.length = 32 := by simpa using hl
  obtain ⟨_, _, h0⟩ := fieldS (i := 0) Try.underlying65 h rfl
  obtain ⟨_, _, h1⟩ := fieldS (i := 1) Try.underlying65 h rfl
  simp [cellsNt, cellsDig] at h0 h1
  rw [List.take_of_length_le (by omega)] at h1
  obtain ⟨x, rfl, _⟩ := int_one h0
  obtain ⟨D, rfl, hD⟩ := dig_of hr h1
  exact ⟨(x, D), rfl, hD⟩
theorem split53 {α : Type} {l : List α} (h : l.length = 53) : ∃ a0 a1 a2 a3 a4 q g t0 t1 t2 t3 t4 t5, l = [a0, a1, a2, a3, a4] ++ (q ++ (g ++ [t0, t1, t2, t3, t4, t5])) ∧ q.length = 10 ∧ g.length = 32 := by
 match l, h with
 | a0 :: a1 :: a2 :: a3 :: a4 :: r, h =>
  have hr : r.length = 48 := by simpa using h
  have ht : (r.drop 42).length = 6 := by rw [List.length_drop]; omega
  obtain ⟨t0, t1, t2, t3, t4, t5, e⟩ : ∃ t0 t1 t2 t3 t4 t5, r.drop 42 = [t0, t1, t2, t3, t4, t5] := by
   match r.drop 42, ht with
   | [t0, t1, t2, t3, t4, t5], _ => exact ⟨t0, t1, t2, t3, t4, t5, rfl⟩
  refine ⟨a0, a1, a2, a3, a4, r.take 10, (r.drop 10).take 32, t0, t1, t2, t3, t4, t5, ?_, by rw [List.length_take]; omega, by rw [List.length_take, List.length_drop]; omega⟩
  rw [← e, show r.drop 42 = (r.drop 10).drop 32 by rw [List.drop_drop], List.take_append_drop, List.take_append_drop]
  rfl
set_option maxRecDepth 100000 in
theorem openMsg {r : Reach} {b0 : Nat} {v : Value} {d : DataW H} {p : List MemPlace} (hv : Value.okWide Try.prog w r b0 42 v) (h : DataW.Trod enc Try.prog w base spare held 42 v d p) :
 ∃ (m : Ms) (x : Option Addr) (N cap : Nat), v = .agg (msC m (.slice x N cap)).toArray ∧ MarksAt w.heap.size w (.slice x N cap) m.marks ∧ m.ok ∧ m.wide := by
 obtain ⟨⟨l⟩, rfl, hsz⟩ := okWide_struct Try.underlying42 hv
 have hl : l.length = 53 := hsz.trans (by kernel_rfl)
 obtain ⟨a0, a1, a2, a3, a4, q, g, t0, t1, t2, t3, t4, t5, rfl, hq, hg⟩ := split53 hl
 obtain ⟨fuel, hf⟩ := h
 obtain ⟨_, _, h0⟩ := fieldS (i := 0) Try.underlying42 hf rfl
 obtain ⟨_, _, h1⟩ := fieldS (i := 1) Try.underlying42 hf rfl
 obtain ⟨_, _, h2⟩ := fieldS (i := 2) Try.underlying42 hf rfl
 obtain ⟨_, _, h3⟩ := fieldS (i := 3) Try.underlying42 hf rfl
 obtain ⟨_, _, h4⟩ := fieldS (i := 4) Try.underlying42 hf rfl
 obtain ⟨_, _, h5⟩ := fieldS (i := 5) Try.underlying42 hf rfl
 obtain ⟨_, _, h6⟩ := fieldS (i := 6) Try.underlying42 hf rfl
 obtain ⟨_, _, h7⟩ := fieldS (i := 7) Try.underlying42 hf rfl
 obtain ⟨_, _, h8⟩ := fieldS (i := 8) Try.underlying42 hf rfl
 obtain ⟨_, _, h9⟩ := fieldS (i := 9) Try.underlying42 hf rfl
 obtain ⟨_, _, h10⟩ := fieldS (i := 10) Try.underlying42 hf rfl
 have dq : ∀ k, 10 ≤ k → q.drop k = [] := fun k hk => List.drop_eq_nil_of_le (by omega)
 have dg : ∀ k, 32 ≤ k → g.drop k = [] := fun k hk => List.drop_eq_nil_of_le (by omega)
 simp [Value.cells, cellsNt, cellsReq, cellsDig, cellsMks, cells64, cellsOut, List.drop_append, List.take_append, hq, hg, dq 42 (by decide), dq 43 (by decide), dq 44 (by decide), dq 45 (by decide), dg 33 (by decide), dg 34 (by decide), dg 35 (by decide)] at h0 h1 h2 h3 h4 h5 h6 h7 h8 h9 h10
 obtain ⟨k0, rfl, _⟩ := int_one h0
 obtain ⟨k1, rfl, _⟩ := int_one h1
 obtain ⟨k2, rfl, _⟩ := int_one h2
 obtain ⟨k3, rfl, _⟩ := int_one h3
 obtain ⟨k4, rfl, _⟩ := int_one h4
 obtain ⟨rq, rfl⟩ := req_of hq h5
 obtain ⟨D, rfl, hD⟩ := dig_of hg h6
 obtain ⟨L, hL, h32⟩ := rows_of (f := markC) (g := fun p => p.2.length = 32) Try.underlying38 cellsMrk (by decide) (fun n cs y hy hl => mark_of hy hl) h7
 obtain ⟨x, c, rfl, _⟩ := id hL
 obtain ⟨bid, rfl, hb⟩ := u64_one h8
 obtain ⟨nn, rfl, hn⟩ := u64_one h9
 obtain ⟨_, _, o0⟩ := fieldS (i := 0) Try.underlying40 h10 rfl
 obtain ⟨_, _, o1⟩ := fieldS (i := 1) Try.underlying40 h10 rfl
 obtain ⟨_, _, o2⟩ := fieldS (i := 2) Try.underlying40 h10 rfl
 simp [cellsNt, cells64] at o0 o1 o2
 obtain ⟨st, rfl, _⟩ := int_one o0
 obtain ⟨wn, rfl, _⟩ := int_one o1
 obtain ⟨pr, rfl, hp⟩ := u64_one o2
 exact ⟨⟨k0, k1, k2, k3, k4, rq, D, L, bid, nn, ⟨st, wn, pr⟩⟩, x, _, c, rfl, hL, ⟨hD, h32⟩, ⟨hb, hn, hp⟩⟩
set_option maxRecDepth 100000 in
theorem openPair {r : Reach} {b0 : Nat} {v : Value} {d : DataW H} {p : List MemPlace} (hv : Value.okWide Try.prog w r b0 29 v) (h : DataW.Trod enc Try.prog w base spare held 29 v d p) :
 ∃ a b : Int, v = .agg #[.int .i64 a, .int .i64 b] ∧ I64 a ∧ I64 b := by
 simp only [Value.okWide, Try.underlying29] at hv
 obtain ⟨⟨l⟩, rfl, hsz, _⟩ := hv
 have hl : l.length = 2 := hsz.trans (by kernel_rfl)
 obtain ⟨c0, c1, rfl⟩ := list2T hl
 obtain ⟨fuel, hf⟩ := h
 have hN := fun i hi => ints_of Try.underlying29 Try.underlying3 cellsNt rfl hf (i := i) hi
 obtain ⟨k0, e0, w0⟩ := hN 0 (by decide)
 obtain ⟨k1, e1, w1⟩ := hN 1 (by decide)
 simp [Value.cells] at e0 e1
 subst e0 e1
 exact ⟨k0, k1, rfl, i64_ends w0, i64_ends w1⟩
end
end Go.Proofs.Ytpefdmkfmcjfnaa.Df

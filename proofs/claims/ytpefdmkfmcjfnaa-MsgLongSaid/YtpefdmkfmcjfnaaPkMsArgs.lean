import Derived.Test.YtpefdmkfmcjfnaaPkDfMay

namespace Go.Proofs.Ytpefdmkfmcjfnaa.Df
open Go.ChangeShapes Go.WideShapes Go.ChangeAt Go.RowKit Go.Proofs.Ytpefdmkfmcjfnaa.Mem Go.Proofs.Ytpefdmkfmcjfnaa.Route Go.Proofs.Ytpefdmkfmcjfnaa.Oct Go.Proofs.Ytpefdmkfmcjfnaa.Ms Go.Proofs.Ytpefdmkfmcjfnaa.Mp
set_option linter.unusedVariables false
section
variable {H : Type} {enc : TypeId × Value → H} {w : World} {base : Nat} {spare : Nat → Bool} {held : Bool}
theorem ints_of {t e : TypeId} {n : Nat} {q : IntKind} (ht : Try.prog.underlying t = some (.array n e)) (he : Try.prog.underlying e = some (.int q)) (hc : Try.prog.cellsOf e = 1) {fuel : Nat} {cs : List Value} {x : DataW H × List MemPlace} (hl : cs.length = n)
 (h : DataW.trod enc Try.prog w base spare held fuel t cs = some x) {i : Nat} (hi : i < n) : ∃ k : Int, cs[i]? = some (.int q k) ∧ (Lit.int q k).wf = true := by
 obtain ⟨xs, m, _, _, _, hlen, hel⟩ := DataW.trod_array ht h
 have h1 := hel i hi
 rw [hc, Nat.mul_one, List.drop_eq_getElem_cons (by omega : i < cs.length), List.take_succ_cons, List.take_zero] at h1
 rw [List.getElem?_eq_getElem (by omega : i < xs.length)] at h1
 obtain ⟨k, hk, _, hw⟩ := DataW.trod_int he h1
 simp at hk
 exact ⟨k, by rw [List.getElem?_eq_getElem (by omega : i < cs.length), hk], hw⟩
theorem list12 {α : Type} {cs : Array α} (h : cs.size = 12) : ∃ c0 c1 c2 c3 c4 c5 c6 c7 c8 c9 c10 c11, cs = #[c0, c1, c2, c3, c4, c5, c6, c7, c8, c9, c10, c11] := by
 obtain ⟨l⟩ := cs
 match l, h with
 | [c0, c1, c2, c3, c4, c5, c6, c7, c8, c9, c10, c11], _ => exact ⟨c0, c1, c2, c3, c4, c5, c6, c7, c8, c9, c10, c11, rfl⟩
theorem cells16 : Try.prog.cellsOf 22 = 1 := by kernel_rfl
theorem cells64 : Try.prog.cellsOf 24 = 1 := by kernel_rfl
theorem cellsA8 : Try.prog.cellsOf 23 = 8 := by kernel_rfl
theorem cellsA2 : Try.prog.cellsOf 25 = 2 := by kernel_rfl
theorem cellsBs : Try.prog.cellsOf 26 = 1 := by kernel_rfl
theorem byte_nat {x : Int} (h : (Lit.int .u8 x).wf = true) : ∃ b : UInt8, Value.int .u8 x = u8V b := by
 obtain ⟨n, rfl, hn⟩ := u8_nat h
 exact ⟨UInt8.ofNat n, by rw [u8V, UInt8.toNat_ofNat', Nat.mod_eq_of_lt (by simpa using hn)]⟩
set_option maxRecDepth 100000 in
theorem openDraft {r : Reach} {b0 : Nat} {v : Value} {d : DataW H} {p : List MemPlace} (hv : Value.okWide Try.prog w r b0 28 v) (h : DataW.Trod enc Try.prog w base spare held 28 v d p) :
 ∃ (x : Option Addr) (L cap : Nat) (dr : Dr), v = .agg (drC dr (.slice x L cap)).toArray ∧ BytesAt w.heap.size w (.slice x L cap) dr.bs ∧ dr.ok := by
 obtain ⟨cs, rfl, hsz⟩ := okWide_struct Try.underlying28 hv
 obtain ⟨c0, c1, c2, c3, c4, c5, c6, c7, c8, c9, c10, c11, rfl⟩ := list12 (hsz.trans (by kernel_rfl))
 obtain ⟨fuel, hf⟩ := h
 obtain ⟨_, _, h0⟩ := fieldS (i := 0) Try.underlying28 hf rfl
 obtain ⟨_, _, h1⟩ := fieldS (i := 1) Try.underlying28 hf rfl
 obtain ⟨_, _, h2⟩ := fieldS (i := 2) Try.underlying28 hf rfl
 obtain ⟨_, _, h3⟩ := fieldS (i := 3) Try.underlying28 hf rfl
 simp [Value.cells, cellsU8, cellsA8, cellsA2, cellsBs] at h0 h1 h2 h3
 obtain ⟨kd, hk, _, wk⟩ := DataW.trod_int Try.underlying5 h0
 simp at hk
 subst hk
 obtain ⟨kd, rfl, bk⟩ := u8_nat wk
 have hN := fun i hi => ints_of Try.underlying23 Try.underlying22 cells16 rfl h1 (i := i) hi
 obtain ⟨k0, e0, w0⟩ := hN 0 (by decide)
 obtain ⟨k1, e1, w1⟩ := hN 1 (by decide)
 obtain ⟨k2, e2, w2⟩ := hN 2 (by decide)
 obtain ⟨k3, e3, w3⟩ := hN 3 (by decide)
 obtain ⟨k4, e4, w4⟩ := hN 4 (by decide)
 obtain ⟨k5, e5, w5⟩ := hN 5 (by decide)
 obtain ⟨k6, e6, w6⟩ := hN 6 (by decide)
 obtain ⟨k7, e7, w7⟩ := hN 7 (by decide)
 have hBg := fun i hi => ints_of Try.underlying25 Try.underlying24 cells64 rfl h2 (i := i) hi
 obtain ⟨k8, e8, w8⟩ := hBg 0 (by decide)
 obtain ⟨k9, e9, w9⟩ := hBg 1 (by decide)
 simp at e0 e1 e2 e3 e4 e5 e6 e7 e8 e9
 subst e0 e1 e2 e3 e4 e5 e6 e7 e8 e9
 obtain ⟨n0, rfl, b0'⟩ := u16_nat w0
 obtain ⟨n1, rfl, b1'⟩ := u16_nat w1
 obtain ⟨n2, rfl, b2'⟩ := u16_nat w2
 obtain ⟨n3, rfl, b3'⟩ := u16_nat w3
 obtain ⟨n4, rfl, b4'⟩ := u16_nat w4
 obtain ⟨n5, rfl, b5'⟩ := u16_nat w5
 obtain ⟨n6, rfl, b6'⟩ := u16_nat w6
 obtain ⟨n7, rfl, b7'⟩ := u16_nat w7
 obtain ⟨g0, rfl, b8'⟩ := u64_nat w8
 obtain ⟨g1, rfl, b9'⟩ := u64_nat w9
 obtain ⟨bs, hb1, -⟩ := rows_of (f := byC) (g := fun _ => True) Try.underlying26 cellsU8 (by decide) (fun n cs y hy hl => by
  obtain ⟨a, rfl⟩ := list1T hl
  obtain ⟨k, hk, _, hw⟩ := DataW.trod_int Try.underlying5 hy
  simp at hk
  subst hk
  obtain ⟨b, hb⟩ := byte_nat hw
  exact ⟨b, by rw [byC, hb], trivial⟩) h3
 obtain ⟨xb, cb, rfl, _⟩ := id hb1
 exact ⟨xb, _, cb, ⟨kd, n0, n1, n2, n3, n4, n5, n6, n7, g0, g1, bs⟩, rfl, by simpa [BytesAt] using hb1, ⟨bk, b0', b1', b2', b3', b4', b5', b6', b7', b8', b9'⟩⟩
end
end Go.Proofs.Ytpefdmkfmcjfnaa.Df

import Derived.Test.YtpefdmkfmcjfnaaPkSched

namespace Go.Proofs.Ytpefdmkfmcjfnaa.Dr
open Go.RowKit Go.Proofs.Ytpefdmkfmcjfnaa.Mem
set_option linter.unusedVariables false
structure But (n : Nat) (W W' : World) : Prop where
 os : W'.os = W.os
 tape : W'.tape = W.tape
 output : W'.output = W.output
 size : W.heap.size ≤ W'.heap.size
 block : ∀ k, k < W.heap.size → k ≠ n → W'.heap[k]? = W.heap[k]?
theorem But.refl (n : Nat) (W : World) : But n W W := ⟨rfl, rfl, rfl, Nat.le_refl _, fun _ _ _ => rfl⟩
theorem But.trans {n : Nat} {A B C : World} (h : But n A B) (k : But n B C) : But n A C :=
 ⟨k.os.trans h.os, k.tape.trans h.tape, k.output.trans h.output, Nat.le_trans h.size k.size, fun j hj h0 => (k.block j (Nat.lt_of_lt_of_le hj h.size) h0).trans (h.block j hj h0)⟩
theorem But.set (n : Nat) (W : World) (i : Nat) (v : Value) : But n W (W.setCell ⟨n, i, none⟩ v) := ⟨rfl, rfl, rfl, by simp, fun k _ h0 => Below.heap_setCell W _ v k h0⟩
theorem But.row (n : Nat) (W : World) (cs : Array Value) : But n W (W.setRow n cs) := ⟨rfl, rfl, rfl, by rw [setRow_size]; exact Nat.le_refl _, fun k _ h0 => setRow_other W n k cs h0⟩
theorem But.at {n g : Nat} {W W' : World} {t : TypeId} {cs : Array Value} (h : But n W W') (hA : At W g t cs) (h0 : g ≠ n) : At W' g t cs := (h.block g hA.inside h0).trans hA
theorem But.below {n B : Nat} {w W W' : World} (h : But n W W') (hb : Below B w W) (hB : B ≤ W.heap.size) (hn : B ≤ n) : Below B w W' :=
 ⟨h.os.trans hb.os, h.tape.trans hb.tape, h.output.trans hb.output, Nat.le_trans hb.size h.size, fun k hk => (h.block k (by omega) (by omega)).trans (hb.block k hk)⟩
def Vv (ks : List (Option Value)) (i : Nat) (v : Value) (w : World) : Prop := ∀ u, ks[i]? = some (some u) → v = u
theorem Vv.val {ks : List (Option Value)} {i : Nat} {u v : Value} {w : World} (h : ks[i]? = some (some u)) (e : v = u) : Vv ks i v w := fun x hx => by rw [h] at hx; cases hx; exact e
theorem Vv.any {ks : List (Option Value)} {i : Nat} {v : Value} {w : World} (h : ks[i]? = some none) : Vv ks i v w := fun x hx => by rw [h] at hx; cases hx
theorem Vv.eq {ks : List (Option Value)} {i : Nat} {u v : Value} {w : World} (hV : Vv ks i v w) (h : ks[i]? = some (some u)) : v = u := hV u h
end Go.Proofs.Ytpefdmkfmcjfnaa.Dr

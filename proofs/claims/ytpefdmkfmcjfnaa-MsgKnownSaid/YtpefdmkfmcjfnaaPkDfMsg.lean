import Derived.Test.YtpefdmkfmcjfnaaPkDfDig

namespace Go.Proofs.Ytpefdmkfmcjfnaa.Df
open Go.RowKit Go.Sort Go.Proofs.Ytpefdmkfmcjfnaa.Mem Go.Proofs.Ytpefdmkfmcjfnaa.Route Go.Proofs.Ytpefdmkfmcjfnaa.Oct Go.Proofs.Ytpefdmkfmcjfnaa.Ms Go.Proofs.Ytpefdmkfmcjfnaa.Part Go.Proofs.Ytpefdmkfmcjfnaa.Mp Go.Proofs.Ytpefdmkfmcjfnaa.Dr Go.Proofs.Ytpefdmkfmcjfnaa.Feas
set_option linter.unusedVariables false
structure Sd (n p q r : Nat) (d : Dr) (x : Option Addr) (L cap : Nat) (w : World) (m : Ms) (v : Value) (W : World) : Prop where
 dr : At W n 28 (drC d (.slice x L cap)).toArray
 num : At W q 23 (drN d).toArray
 res : AtL W p 42 (msC z0 nilS)
 msg : AtL W r 42 (msC m v)
 bel : Below w.heap.size w W
 byt : BytesAt n W (.slice x L cap) d.bs
 base : w.heap.size = n
 ord : n < p ∧ p < q ∧ q < r
theorem Sd.below {n p q r : Nat} {d : Dr} {x : Option Addr} {L cap : Nat} {w W V : World} {m : Ms} {v : Value} (h : Sd n p q r d x L cap w m v W) (hb : Below W.heap.size W V) : Sd n p q r d x L cap w m v V :=
 ⟨h.dr.keep hb h.dr.inside, h.num.keep hb h.num.inside, h.res.on hb, h.msg.on hb, h.bel.trans (hb.mono h.bel.size), RowB.keep h.byt hb (Nat.le_of_lt h.dr.inside), h.base, h.ord⟩
theorem Sd.put {n p q r : Nat} {d : Dr} {x : Option Addr} {L cap : Nat} {w W : World} {m m' : Ms} {v v' : Value} (h : Sd n p q r d x L cap w m v W) (i : Nat) (y : Value) (he : (msC m v).set i y = msC m' v') : Sd n p q r d x L cap w m' v' (W.setCell ⟨r, i, none⟩ y) := by
 have ho := h.ord
 exact ⟨h.dr.far (by omega) i y, h.num.far (by omega) i y, h.res.far (by omega) i y, atL_eq (h.msg.put i y) he, below_set h.bel (by have := h.base; omega) i y, RowB.keep h.byt (below_set (Below.refl n W) (by omega) i y) (Nat.le_refl _), h.base, h.ord⟩
theorem Sd.row {n p q r : Nat} {d : Dr} {x : Option Addr} {L cap : Nat} {w W : World} {m m' : Ms} {v v' : Value} (h : Sd n p q r d x L cap w m v W) (i : Nat) (cs : List Value) (he : putL (msC m v) i cs = msC m' v') : Sd n p q r d x L cap w m' v' (W.setRow r (putL (msC m v) i cs).toArray) := by
 have ho := h.ord
 exact ⟨(setRow_other W r n _ (by omega)).trans h.dr, (setRow_other W r q _ (by omega)).trans h.num, h.res.rowFar (by omega) _, atL_eq (h.msg.row _) he, below_row h.bel (by have := h.base; omega) _, RowB.keep h.byt (below_row (Below.refl n W) (by omega) _) (Nat.le_refl _), h.base, h.ord⟩
end Go.Proofs.Ytpefdmkfmcjfnaa.Df
namespace Go.Proofs.Ytpefdmkfmcjfnaa.Ms
open Go.Proofs.Ytpefdmkfmcjfnaa.Oct
set_option linter.unusedVariables false
theorem enc_frame {m : Ms} (h : mayB m = true) : encL m = Fr.frL m.kind.toNat (bodyL m) := by rw [encL, if_pos h, frameL_eq]
theorem fold_from (l : Bs) : ∀ a : Nat, l.foldl (fun a b => a * 256 + b.toNat) a = a * 2 ^ (8 * l.length) + numL l := by
 induction l with
 | nil => intro a; simp [numL]
 | cons b t ih =>
  intro a
  have e : 2 ^ (8 * (t.length + 1)) = 256 * 2 ^ (8 * t.length) := by rw [Nat.mul_add, Nat.pow_add, Nat.mul_comm]
  rw [numL, List.foldl_cons, List.foldl_cons, ih, ih, List.length_cons, e, Nat.add_mul, ← Nat.mul_assoc, Nat.zero_mul, Nat.zero_add]
  omega
theorem num_cons (b : UInt8) (t : Bs) : numL (b :: t) = b.toNat * 2 ^ (8 * t.length) + numL t := by
 have := fold_from t b.toNat
 rw [numL, List.foldl_cons, Nat.zero_mul, Nat.zero_add, this]
end Go.Proofs.Ytpefdmkfmcjfnaa.Ms
namespace Go.Proofs.Ytpefdmkfmcjfnaa.Df
open Go.RowKit Go.Sort Go.Proofs.Ytpefdmkfmcjfnaa.Mem Go.Proofs.Ytpefdmkfmcjfnaa.Route Go.Proofs.Ytpefdmkfmcjfnaa.Oct Go.Proofs.Ytpefdmkfmcjfnaa.Ms Go.Proofs.Ytpefdmkfmcjfnaa.Part Go.Proofs.Ytpefdmkfmcjfnaa.Mp
set_option linter.unusedVariables false
attribute [local go_sem] str_append str_from str_to
theorem enc_max {m : Ms} (hm : m.ok) (h : mayB m = true) (hw : m.wide) : (encL m).length ≤ 1003 := by
 have h1 := body_len hm (may_fits h hw)
 rw [enc_frame h, Fr.frL_length]
 omega
end Go.Proofs.Ytpefdmkfmcjfnaa.Df

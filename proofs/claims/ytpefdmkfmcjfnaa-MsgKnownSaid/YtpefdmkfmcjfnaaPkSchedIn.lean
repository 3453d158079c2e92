import Derived.Test.YtpefdmkfmcjfnaaPkSched
import Derived.WalkKit
import Derived.RangeFuncNested
import Derived.RangeFuncBound
import Derived.Shelf.RegionOpen
import Derived.OwnWalkIn
import Derived.LoopIn
import Derived.LoopNIn

namespace Go.Proofs.Ytpefdmkfmcjfnaa.Sched
open Go.Proofs.Ytpefdmkfmcjfnaa.Tail (Fit least)
set_option linter.unusedVariables false
def noDefer (o : Oper) : Bool := match o.op with | .defer _ => false | _ => true
theorem noDefer_ne {o : Oper} (h : noDefer o = true) : ∀ c, o.op ≠ .defer c := by
 intro c e
 rw [noDefer, e] at h
 cases h
theorem rowsIn_of {l n : Nat} {P : Program} {row : String} {args : Array Value} {w : World} {R : Value → World → Prop} (h : Rows P row args w R) : RowsIn (Fence.wide.inRound l) n P row args w R :=
 fun c cs _ => let ⟨v, w', r, s⟩ := h c cs; ⟨v, w', r, stepsIn_wide.2 s⟩
theorem uponIn_of {l n : Nat} {P : Program} {o : Oper} {a : Act} {K : Act → World → Prop} {Q : Exit → Act → World → Prop} : ∀ {r : Result Next}, o.upon P a K Q r → o.uponIn (Fence.wide.inRound l) n P a K Q r := by
 intro r h
 cases r with
 | ok x w' =>
  cases x with
  | value v => exact h
  | skip => exact h
  | defer d => exact h
  | enter f args => exact ⟨fun e => (by cases e), callsIn_wide.2 h⟩
  | row row args => exact ⟨fun e => (by cases e), rowsIn_of h⟩
  | round => exact h.elim
  | _ => exact h.elim
 | halt x w' => cases x <;> exact h
theorem wpOpIn_of {l n : Nat} {P : Program} {ops : Array Oper} {Q : Exit → Act → World → Prop} (hd : ∀ o ∈ ops, noDefer o = true) (hQ : ¬ LetsOut Q) {i : Nat} {K : Act → World → Prop} {a : Act} {w : World} (h : wpOp P ops Q i K a w) : wpOpIn (Fence.wide.inRound l) n P ops Q i K a w := by
 unfold wpOp at h
 unfold wpOpIn
 cases ho : ops[i]? with
 | none => rw [ho] at h; exact h
 | some o =>
  rw [ho] at h
  have hm : o ∈ ops := Array.mem_of_getElem? ho
  by_cases hw : Region.wanted o (yielded ops a.tmps) = true
  · simp only [hw, if_true] at h ⊢
    refine ⟨fun _ _ => trivial, ?_⟩
    rcases h with h | ⟨_, h⟩
    · have e : o.semAt (Fence.wide.inRound l).round a.eval = execOp a.eval o := Oper.semAt_some l _ _ (noDefer_ne (hd o hm))
      rw [e]
      exact uponIn_of h
    · exact absurd h hQ
  · simp only [hw, if_false, Bool.false_eq_true] at h ⊢
    exact ⟨fun _ _ => trivial, h⟩
theorem wpAnyIn_of {l n : Nat} {P : Program} {ops : Array Oper} {Q : Exit → Act → World → Prop} (hd : ∀ o ∈ ops, noDefer o = true) (hQ : ¬ LetsOut Q) : ∀ (fuel : Nat) (listed : Array Bool) (a : Act) (w : World), wpAny P .any ops Q fuel listed a w → wpAnyIn (Fence.wide.inRound l) n P .any ops Q fuel listed a w
 | 0, _, _, _, h => h
 | fuel + 1, listed, a, w, h => ⟨h.1, fun i hi => wpOpIn_of hd hQ (wpOp_mono (fun a' w' h' => wpAnyIn_of hd hQ fuel _ a' w' h') (h.2 i hi))⟩
variable {P : Program} {l : List Oper} {n : Nat} {Q : Exit → Act → World → Prop}
theorem wpIn_region_sched {lr m : Nat} {id : Nat} {a : Act} {w : World} (n : Nat) (Ext : World → World → Prop) (V : Nat → Value → World → Prop) (Z : (Nat → Bool) → (Nat → Value) → World → Prop)
 (hm : P.follows .mixedOrders = true) (hT : okB l n = true) (hA : apartB (l.take n) = true) (hd : (l.all noDefer) = true) (hO : ¬ LetsOut Q)
 (htr : ∀ {a b c}, Ext a b → Ext b c → Ext a c) (hV : ∀ {k v w w'}, V k v w → Ext w w' → V k v w') (h0 : Ext w { w with drawn := w.drawn + 1 }) (hZ : ∀ ys, Z (fun _ => false) ys { w with drawn := w.drawn + 1 })
 (hS : Steps P l n Q Ext V Z w a 0 (l.take n))
 (hQ : ∀ ys w', Ext w w' → (∀ i, i < n → V i (ys i) w') → (∃ done : Nat → Bool, (∀ i, i < n → done i = true) ∧ Z done ys w') → wpList P l.toArray Q (l.drop n) (fill 0 (l.take n) ys a) w') : (Code.region id l.toArray true).wpIn (Fence.wide.inRound lr) m P Q a w := by
 have hk := ok_of hT
 refine wpIn_region_any hm (wpAnyIn_of (fun o ho => List.all_eq_true.1 hd o (by simpa using ho)) hO _ _ _ _ ?_)
 obtain ⟨ys, hy⟩ := fill_self (l.take n) 0 a
 have hd : ∀ i, (Array.replicate n false).getD i false = false := fun i => by rw [Array.getD_eq_getD_getElem?, Array.getElem?_replicate]; split <;> rfl
 have h2 := sched_any (P := P) (Q := Q) (w0 := w) (Ext := Ext) (V := V) (Z := Z) (a0 := a) hk hA htr hV hS hQ n (Array.replicate n false) (Array.replicate l.length false) ys { w with drawn := w.drawn + 1 } h0
  (fun i _ h => by rw [hd] at h; cases h) (by rw [show (fun i => (Array.replicate n false).getD i false) = fun _ => false from funext hd]; exact hZ ys)
  ⟨by simp, by simp, fun j hj => by have := hk.lt; rw [Array.getElem?_replicate, Array.getElem?_replicate, if_pos hj, if_pos (by omega)], fun j h1 h2 => by simp [h2], fun j o hj ht => by rw [Array.getElem?_replicate] at ht; split at ht <;> cases ht⟩ (by simp)
 rw [hy, show n + (l.length - n) = l.length by have := hk.lt; omega] at h2
 simpa using h2
end Go.Proofs.Ytpefdmkfmcjfnaa.Sched

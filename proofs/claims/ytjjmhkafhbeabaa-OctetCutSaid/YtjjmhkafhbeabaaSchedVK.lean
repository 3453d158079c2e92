/-
  What is known of the values of a drawn region's operations: a value outright, or a predicate that lasts while memory grows. No program's walk here.
-/
import Derived.Test.YtjjmhkafhbeabaaSchedAll
import Derived.Test.YtjjmhkafhbeabaaMem
import Derived.Below
namespace Go.Proofs.Ytjjmhkafhbeabaa.Feas
open Go.RowKit Go.Proofs.Ytjjmhkafhbeabaa.Mem
set_option linter.unusedVariables false

inductive Kn where
  | val (u : Value)
  | of (p : Value → World → Prop) (hp : ∀ {v w w'}, p v w → Below w.heap.size w w' → p v w')
  | any
def Kn.holds : Kn → Value → World → Prop
  | .val u, v, _ => v = u
  | .of p _, v, w => p v w
  | .any, _, _ => True
def VK (ks : List Kn) (i : Nat) (v : Value) (w : World) : Prop := ∀ k, ks[i]? = some k → k.holds v w
theorem VK.keep {ks : List Kn} {i : Nat} {v : Value} {w w' : World} (h : VK ks i v w) (hb : Below w.heap.size w w') : VK ks i v w' := fun k hk => by
  have h1 := h k hk
  cases k with
  | val u => exact h1
  | of p hp => exact hp h1 hb
  | any => trivial
theorem VK.val {ks : List Kn} {i : Nat} {u v : Value} {w : World} (h : ks[i]? = some (.val u)) (e : v = u) : VK ks i v w := fun k hk => by rw [h] at hk; cases hk; exact e
theorem VK.of {ks : List Kn} {i : Nat} {v : Value} {w : World} {p : Value → World → Prop} {hp : ∀ {v w w'}, p v w → Below w.heap.size w w' → p v w'} (h : ks[i]? = some (.of p hp)) (e : p v w) : VK ks i v w := fun k hk => by rw [h] at hk; cases hk; exact e
theorem VK.any {ks : List Kn} {i : Nat} {v : Value} {w : World} (h : ks[i]? = some .any) : VK ks i v w := fun k hk => by rw [h] at hk; cases hk; trivial
theorem VK.eq {ks : List Kn} {i : Nat} {u v : Value} {w : World} (hV : VK ks i v w) (h : ks[i]? = some (.val u)) : v = u := hV _ h
theorem VK.get {ks : List Kn} {i : Nat} {v : Value} {w : World} {p : Value → World → Prop} {hp : ∀ {v w w'}, p v w → Below w.heap.size w w' → p v w'} (hV : VK ks i v w) (h : ks[i]? = some (.of p hp)) : p v w := hV _ h
theorem belowTr {a b c : World} (h : Below a.heap.size a b) (k : Below b.heap.size b c) : Below a.heap.size a c := h.trans (k.mono h.size)

end Go.Proofs.Ytjjmhkafhbeabaa.Feas

/-
  A drawn region within a round of a range over a function: its head quiet, its tail forced. Nothing here speaks of a program.
-/
import Derived.Test.YtkfienjlmnbonaaSchedIn
import Derived.Test.YtkfienjlmnbonaaTail
import Derived.Test.YtkfienjlmnbonaaUp
import Derived.Test.YtkfienjlmnbonaaSeq
namespace Go.Proofs.Ytkfienjlmnbonaa.Rt
open Go.RowKit Go.Sort
set_option linter.unusedVariables false

theorem round_region_tail {lr m : Nat} {P : Program} {l : List Oper} {id : Nat} {Q : Exit → Act → World → Prop} {a : Act} {w : World} (n : Nat) (hm : P.follows .mixedOrders = true) (hB : Region.lexB .any (l.take n).toArray = true) (hT : Tail.okB l n = true) (hd : (l.all Sched.noDefer) = true) (hO : ¬ LetsOut Q)
    (h : wpQuiet P (l.take n).toArray (fun w' => ∃ p : Regrown, w' = grow (redrawn w p.d) p.os) (fun a' => ∀ w', (∃ p : Regrown, w' = grow (redrawn w p.d) p.os) → wpList P l.toArray Q (l.drop n) a' w') (l.take n) a) : (Code.region id l.toArray true).wpIn (Fence.wide.inRound lr) m P Q a w := by
  have hk := Tail.ok_of hT
  simp only [Region.lexB, Bool.and_eq_true] at hB
  have hlen : (l.take n).length = n := by simp; have := hk.lt; omega
  have h1 := wpAnyQ_lex (P := P) (C := fun w' => ∃ p : Regrown, w' = grow (redrawn w p.d) p.os) (md := .any) (ops := (l.take n).toArray) hB.1 (l.take n) 0 (Array.replicate n false) a (by simp) (by simpa [hlen] using hB.2) h
  refine wpIn_region_any hm (Sched.wpAnyIn_of (fun o ho => List.all_eq_true.1 hd o (by simpa using ho)) hO _ _ _ _ ?_)
  have h2 := Tail.tail_any (P := P) (C := fun w' => ∃ p : Regrown, w' = grow (redrawn w p.d) p.os) (Q := Q) hk (Qa := fun a' => ∀ w', (∃ p : Regrown, w' = grow (redrawn w p.d) p.os) → wpList P l.toArray Q (l.drop n) a' w') (fun a w hw h => h w hw) (l.take n).length (Array.replicate n false) (Array.replicate l.length false) a { w with drawn := w.drawn + 1 } ⟨⟨w.drawn + 1, #[]⟩, by rw [grow_empty]; rfl⟩
    ⟨by simp, by simp, fun j hj => by have := hk.lt; rw [Array.getElem?_replicate, Array.getElem?_replicate, if_pos hj, if_pos (by omega)], fun j h1 h2 => by simp [h2], fun j o hj ht => by rw [Array.getElem?_replicate] at ht; split at ht <;> cases ht⟩ (by simp [hlen]) h1
  rw [hlen, show n + (l.length - n) = l.length by have := hk.lt; omega] at h2
  simpa using h2
theorem up_out {b : Bool} {R : World → Prop} : ¬ LetsOut (Up.upPost b R) := fun ⟨a, w, h⟩ => h
theorem seq_out {R : World → Prop} : ¬ LetsOut (Seq.offEnd R) := fun ⟨a, w, h⟩ => h
theorem inBlock_out {k : Nat} {Q : Exit → Act → World → Prop} (h : ¬ LetsOut Q) : ¬ LetsOut (Exit.inBlock k Q) := fun ⟨a, w, hh⟩ => h ⟨a, w, hh⟩

end Go.Proofs.Ytkfienjlmnbonaa.Rt

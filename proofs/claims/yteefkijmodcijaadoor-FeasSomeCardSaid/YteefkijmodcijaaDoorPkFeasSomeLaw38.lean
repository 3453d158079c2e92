import Derived.Test.YteefkijmodcijaaDoorRows
import Derived.WalkKit
import Derived.ProofKit
import Derived.OpenShut
import Derived.Carry
import Derived.Lib.SmallJoins

/-
  The last step of every law's proof: what a walk gives (true is returned, and nothing that was there has turned) is what the row asks.
-/
namespace Go.Proofs.YteefkijmodcijaaDoor
open Go.ChangeShapes Go.WideShapes Go.ChangeAt Go.RowKit

namespace Close
variable {H : Type} {enc : TypeId × Value → H} {P : Program}

/-- Each of these types can be read. -/
def allRead (P : Program) (ts : List TypeId) : Bool := ts.all fun t => P.readableRec t && decide (t < P.types.size)

theorem below_trodAll (hl : laidOutB P = true) {W W' : World} (hb : Below W.heap.size W W') :
    ∀ {ts : List TypeId} {vs : List Value} {ds : List (DataW H)} {ps : List MemPlace}, allRead P ts = true →
      DataW.TrodAll enc P W 0 (fun _ => true) true ts vs ds ps → (∀ p ∈ ps, p.block < W.heap.size) →
      DataW.TrodAll enc P W' 0 (fun b => decide (b < W.heap.size)) true ts vs ds ps := by
  intro ts
  induction ts with
  | nil =>
    intro vs ds ps _ h _
    obtain ⟨rfl, rfl, rfl⟩ := trodAll_nil h
    exact h
  | cons t ts ih =>
    intro vs ds ps ha h hlt
    obtain ⟨v, vs', d, ds', p, q, rfl, rfl, rfl, h0, h1⟩ := trodAll_cons h
    simp only [allRead, List.all_cons, Bool.and_eq_true, decide_eq_true_eq] at ha
    have h0' := Below.trod hl ha.1.1 ha.1.2 h0 hb (fun x hx => hlt x (List.mem_append_left _ hx))
    have h1' := ih ha.2 h1 (fun x hx => hlt x (List.mem_append_right _ hx))
    exact trodAll_cons_mk h0' h1'

/-- A law's post: true, and all reads as it did. -/
theorem law_post {f : Func} {s : ChangeSpec} {W W' : World} {args : Array Value} {ds gs : List (DataW H)} {before : List MemPlace} {tb : TypeId}
    (hl : laidOutB P = true) (hts : allRead P f.params.toList = true) (hvars : s.vars = []) (hres : f.resultTypes = #[tb]) (htb : P.underlying tb = some .bool)
    (hW : DataW.Whole enc P f.params.toList s.vars false W args.toList ds gs before)
    (hout : s.fn H (ds ++ gs) = { results := [.lit (.bool true)], args := ds }) (hb : Below W.heap.size W W') :
    s.post enc P f false true false false W args (.bool true) W' := by
  have hlt : ∀ p ∈ before, p.block < W.heap.size := fun p hp => hW.lt p hp
  have hW' := hW
  obtain ⟨p, q, hA, hV, rfl, _, _⟩ := hW
  rw [hvars] at hV
  obtain ⟨rfl, rfl⟩ := trodVars_none hV
  refine ⟨ds, [], p ++ [], [], p, [], hW', ?_, ?_, ?_, ?_, fun h => by cases h⟩
  · rw [hout, hres]
    exact trodAll_cons_mk (shut_bool htb _) trodAll_mk0
  · rw [hout]
    exact below_trodAll hl hb hts hA (fun x hx => hlt x (by simpa using hx))
  · rw [hvars, hout]
    rfl
  · refine World.keptBut_mono (fun x hx => ⟨hx, .inr (.inl ?_)⟩) (hb.frame (· ∈ p ++ []))
    simpa using hx

end Close

theorem own : ownKnob Tryd.prog.godebug = none := by kernel_rfl
theorem laidOut : laidOutB Tryd.prog = true := by kernel_rfl

end Go.Proofs.YteefkijmodcijaaDoor

/-
  Arguments that are arrays of numbers, opened.
-/
namespace Go.Proofs.YteefkijmodcijaaDoor.Close
open Go.ChangeShapes Go.WideShapes Go.ChangeAt Go.RowKit

section
variable {H : Type} {enc : TypeId × Value → H} {P : Program} {w : World} {base : Nat} {spare : Nat → Bool} {held : Bool}

/-- An array of n numbers, by value. -/
theorem open_numbers {r : Reach} {b0 : Nat} {t e : TypeId} {n : Nat} {k : IntKind} {v : Value} {d : DataW H} {p : List MemPlace} (ht : P.underlying t = some (.array n e)) (he : P.underlying e = some (.int k))
    (hc : P.cellsOf e = 1) (hct : P.cellsOf t = n) (hv : Value.okWide P w r b0 t v) (h : DataW.Trod enc P w base spare held t v d p) :
    ∃ xs : List Int, xs.length = n ∧ v = .agg (xs.map (Value.int k)).toArray ∧ ∀ x ∈ xs, (Lit.int k x).wf = true := by
  simp only [Value.okWide, ht] at hv
  obtain ⟨cs, rfl, hsz, _⟩ := hv
  obtain ⟨fuel, hf⟩ := h
  obtain ⟨ys, m, _, _, _, hlen, hel⟩ := DataW.trod_array ht hf
  simp only [hc, Nat.mul_one] at hel
  have hcs : (Value.agg cs).cells.toList = cs.toList := rfl
  rw [hct] at hsz
  have hone : ∀ i (hi : i < n), ∃ x : Int, cs.toList[i]? = some (.int k x) ∧ (Lit.int k x).wf = true := by
    intro i hi
    have h1 := hel i hi
    have hi' : i < cs.toList.length := by simpa [hsz] using hi
    have hdrop : (cs.toList.drop i).take 1 = [cs.toList[i]] := by
      rw [List.drop_eq_getElem_cons hi']
      rfl
    rw [show ((Value.agg cs).cells.toList.drop i).take 1 = [cs.toList[i]] from hdrop] at h1
    rw [List.getElem?_eq_getElem (by omega)] at h1
    obtain ⟨x, hx, _, hw⟩ := DataW.trod_int he h1
    refine ⟨x, ?_, hw⟩
    rw [List.getElem?_eq_getElem hi']
    simpa using hx
  have hall : ∀ l : List Value, (∀ v ∈ l, ∃ x : Int, v = .int k x ∧ (Lit.int k x).wf = true) → ∃ xs : List Int, l = xs.map (Value.int k) ∧ ∀ x ∈ xs, (Lit.int k x).wf = true := by
    intro l
    induction l with
    | nil => exact fun _ => ⟨[], rfl, fun x hx => by cases hx⟩
    | cons v l ih =>
      intro hl
      obtain ⟨x, rfl, hw⟩ := hl v (List.mem_cons_self ..)
      obtain ⟨xs, rfl, hws⟩ := ih (fun u hu => hl u (List.mem_cons_of_mem _ hu))
      exact ⟨x :: xs, rfl, fun y hy => by
        rcases List.mem_cons.1 hy with rfl | hy
        · exact hw
        · exact hws y hy⟩
  obtain ⟨xs, hxs, hws⟩ := hall cs.toList (fun v hv => by
    obtain ⟨i, hi, rfl⟩ := List.getElem_of_mem hv
    obtain ⟨x, hx, hw⟩ := hone i (by simpa [hsz] using hi)
    rw [List.getElem?_eq_getElem hi] at hx
    exact ⟨x, Option.some.inj hx, hw⟩)
  refine ⟨xs, ?_, ?_, hws⟩
  · have := congrArg List.length hxs
    simp [hsz] at this
    exact this.symm
  · have : cs = (xs.map (Value.int k)).toArray := by rw [← hxs]
    rw [this]

end
end Go.Proofs.YteefkijmodcijaaDoor.Close

/-
  A drawn scene turned round may be, and who owns what is the same: plain lists; and the rows that a turned one lies in.
-/
import Derived.Test.YtlkijbakfoabaaaDoorDraftLay
import Derived.Test.YtlkijbakfoabaaaDoorSceneWorks
namespace Go.Proofs.YtlkijbakfoabaaaDoor.Scene
open Go.RowKit Go.Proofs.YtlkijbakfoabaaaDoor.Mem
set_option linter.unusedVariables false

def rvl {α : Type} (b : Bool) (l : List α) : List α := if b then l.reverse else l
theorem rvl_perm {α : Type} (b : Bool) (l : List α) : (rvl b l).Perm l := by
  cases b
  · exact List.Perm.refl _
  · exact List.reverse_perm l
theorem rvl_len {α : Type} (b : Bool) (l : List α) : (rvl b l).length = l.length := (rvl_perm b l).length_eq
theorem rvl_mem {α : Type} {b : Bool} {l : List α} {x : α} : x ∈ rvl b l ↔ x ∈ l := (rvl_perm b l).mem_iff
theorem rvl_map {α β : Type} (f : α → β) (b : Bool) (l : List α) : (rvl b l).map f = rvl b (l.map f) := by
  cases b <;> simp [rvl]
theorem rvl_get {α : Type} (b : Bool) (l : List α) {n : Nat} (hn : n < l.length) : (rvl b l)[n]? = l[if b then l.length - 1 - n else n]? := by
  cases b
  · rfl
  · simp [rvl, List.getElem?_reverse hn]
def turnC (b0 b1 : Bool) (x : Cr) : Cr := ⟨rvl b0 x.fleet, rvl b1 x.own⟩
def turnS (b0 b1 b2 : Bool) (s : Sc) : Sc := ⟨s.reqs, s.cars.map (turnC b0 b1), rvl b2 s.lots, s.cm, s.rv, s.sch, s.draws⟩
theorem turn_perm (b0 b1 : Bool) : ∀ (cs : List Cr), ((cs.map (turnC b0 b1)).flatMap (·.own)).Perm (cs.flatMap (·.own))
  | [] => List.Perm.refl _
  | c :: cs => by
    simp only [List.map_cons, List.flatMap_cons]
    exact List.Perm.append (rvl_perm b1 c.own) (turn_perm b0 b1 cs)
theorem turn_drawn {s : Sc} (b0 b1 b2 : Bool) (h : Drawn s) : Drawn (turnS b0 b1 b2 s) := by
  have hp := turn_perm b0 b1 s.cars
  refine ⟨h.req, fun c hc => ?_, h.num, by simpa [turnS] using h.cnum, by simpa [turnS, rvl_len] using h.lnum, by simpa [turnS] using h.draw, h.term, hp.nodup_iff.2 h.once, hp.length_eq.trans h.cnt, fun r => hp.mem_iff.trans (h.all r), fun l hl => h.lot l (rvl_mem.1 hl), ?_⟩
  · obtain ⟨x, hx, rfl⟩ := List.mem_map.1 hc
    have := h.veh x hx
    exact ⟨by simpa [turnC, rvl_len] using this.1, fun y hy => this.2 y (rvl_mem.1 hy)⟩
  · show ((rvl b2 s.lots).map (·.req)).Nodup
    exact ((rvl_perm b2 s.lots).map _).nodup_iff.2 h.apart
theorem turn_owners {s : Sc} (b0 b1 b2 : Bool) (h : Drawn s) : ownersL (turnS b0 b1 b2 s) = ownersL s := by
  have ht := turn_drawn b0 b1 b2 h
  refine List.map_congr_left fun r hr => ?_
  have hr' : r < s.reqs.length := List.mem_range.1 hr
  have hm := (h.all (r : Int)).2 ⟨by omega, by omega⟩
  obtain ⟨c, hc, hrc⟩ := List.mem_flatMap.1 hm
  obtain ⟨j, hj⟩ := List.getElem?_of_mem hc
  rw [owner_drawn h hj hrc]
  refine owner_drawn ht (j := j) (c := turnC b0 b1 c) ?_ (rvl_mem.2 hrc)
  show (s.cars.map (turnC b0 b1))[j]? = _
  rw [List.getElem?_map, hj]
  rfl
theorem pairs_len : ∀ (cs : List Cr) (k : Nat), (pairsL k cs).length = (cs.flatMap (·.own)).length
  | [], _ => rfl
  | c :: cs, k => by simp [pairsL, pairsC, pairs_len cs (k + 1)]
theorem drawn_fair {s : Sc} (h : Drawn s) : Fair s := by
  have h1 := h.num
  refine fair_of (fun c hc r hr => ?_) (fun l hl => ?_) ?_ (by have := h.lnum; omega) (by omega) (by have := h.cnum; omega)
  · have := (h.all r).1 (List.mem_flatMap.2 ⟨c, hc, hr⟩)
    omega
  · have := (h.lot l hl).1
    omega
  · rw [pairs_len, h.cnt]
    omega

/-- Carriers in rows of the call's own. -/
structure CLay (W : World) (B : Nat) (vC : Value) (us : List (Value × Value)) (cs : List Cr) : Prop where
  cr : W.ownsRow B 53 2 vC us.length (flatC us)
  len : us.length = cs.length
  fl : ∀ (j : Nat) (u : Value × Value) (x : Cr), us[j]? = some u → cs[j]? = some x → W.ownsRow B 57 5 u.1 x.fleet.length (flatV x.fleet)
  ow : ∀ (j : Nat) (u : Value × Value) (x : Cr), us[j]? = some u → cs[j]? = some x → W.ownsRow B 3 1 u.2 x.own.length (flatI x.own)
theorem CLay.nil (W : World) (B : Nat) : CLay W B (.slice none 0 0) [] [] := ⟨World.ownsRow_nil _ _ _ _, rfl, fun j u x hu _ => (by simp at hu), fun j u x hu _ => (by simp at hu)⟩
section
variable {W V : World} {B : Nat} {vC : Value} {us : List (Value × Value)} {cs : List Cr}
theorem CLay.free (h : CLay W B vC us cs) {row : Option Nat} (hg : W.grownBy V row) (hr : ∀ x, row = some x → x < B ∨ W.heap.size ≤ x) : CLay V B vC us cs :=
  ⟨h.cr.kept hg (rowFree h.cr hr), h.len, fun j u x hu hx => (h.fl j u x hu hx).kept hg (rowFree (h.fl j u x hu hx) hr), fun j u x hu hx => (h.ow j u x hu hx).kept hg (rowFree (h.ow j u x hu hx) hr)⟩
theorem CLay.below (h : CLay W B vC us cs) (hb : Below W.heap.size W V) : CLay V B vC us cs := h.free (Below.grow hb) (fun x e => by cases e)
theorem CLay.more (h : CLay W B vC us cs) {v' : Value} {u0 : Value × Value} {x0 : Cr} (hrow : V.ownsRow B 53 2 v' (us.length + 1) (flatC us ++ [u0.1, u0.2])) (hg : W.grownBy V vC.ownBlock)
    (hF : W.ownsRow B 57 5 u0.1 x0.fleet.length (flatV x0.fleet)) (hO : W.ownsRow B 3 1 u0.2 x0.own.length (flatI x0.own)) : CLay V B v' (us ++ [u0]) (cs ++ [x0]) := by
  have hne : ∀ {e : TypeId} {s : Nat} {v : Value} {n : Nat} {xs : List Value}, W.ownsRow B e s v n xs → e ≠ 53 → V.ownsRow B e s v n xs := fun hr ht => hr.kept hg (rowApart hr h.cr ht)
  have hget : ∀ (j : Nat) (u : Value × Value) (x : Cr), (us ++ [u0])[j]? = some u → (cs ++ [x0])[j]? = some x → (us[j]? = some u ∧ cs[j]? = some x) ∨ (u = u0 ∧ x = x0) := by
    intro j u x hu hx
    rcases Nat.lt_or_ge j us.length with hj | hj
    · rw [List.getElem?_append_left hj] at hu
      rw [List.getElem?_append_left (by rw [← h.len]; exact hj)] at hx
      exact Or.inl ⟨hu, hx⟩
    · have hj2 : j = us.length := by have := (List.getElem?_eq_some_iff.1 hu).1; simp at this; omega
      subst hj2
      rw [List.getElem?_append_right (Nat.le_refl _)] at hu
      rw [List.getElem?_append_right (by rw [h.len]; exact Nat.le_refl _)] at hx
      simp [h.len] at hu hx
      exact Or.inr ⟨hu.symm, hx.symm⟩
  refine ⟨?_, by simp [h.len], fun j u x hu hx => ?_, fun j u x hu hx => ?_⟩
  · rw [flatC_snoc]
    simpa using hrow
  · rcases hget j u x hu hx with ⟨h1, h2⟩ | ⟨rfl, rfl⟩
    · exact hne (h.fl j u x h1 h2) (by decide)
    · exact hne hF (by decide)
  · rcases hget j u x hu hx with ⟨h1, h2⟩ | ⟨rfl, rfl⟩
    · exact hne (h.ow j u x h1 h2) (by decide)
    · exact hne hO (by decide)
theorem CLay.cars (h : CLay W B vC us cs) : CarsAt W.heap.size W vC us cs :=
  ⟨h.len, RowB.of_owns h.cr (by simp) (rowsLen (f := fun u : Value × Value => [u.1, u.2]) (m := 2) (fun _ => rfl) _), fun j u x hu hx =>
    ⟨RowB.of_owns (h.fl j u x hu hx) (by simp) (rowsLen (f := vhV) (m := 5) (fun _ => rfl) _), RowB.of_owns (h.ow j u x hu hx) (by simp) (rowsLen (f := inV) (m := 1) (fun _ => rfl) _)⟩⟩
end

/-- What the operations of a region that appends a copy of an element leave. -/
def VCp (pA vA pB vB kv pe av : Value) (N : Nat) (t : TypeId) (cs : Array Value) : Nat → Value → World → Prop
  | 0, y, _ => y = pA
  | 1, y, _ => y = vA
  | 2, y, _ => y = pB
  | 3, y, _ => y = vB
  | 4, y, _ => y = kv
  | 5, y, _ => y = pe
  | 6, y, _ => y = av
  | 7, y, W => ∃ g1 : Nat, y = .slice (some ⟨g1, 0, none⟩) 1 1 ∧ N ≤ g1 ∧ At W g1 t cs
  | _, _, _ => True
theorem VCp.keep {pA vA pB vB kv pe av : Value} {N : Nat} {t : TypeId} {cs : Array Value} {i : Nat} {v : Value} {W V : World} (h : VCp pA vA pB vB kv pe av N t cs i v W) (hg : W.grownBy V none) : VCp pA vA pB vB kv pe av N t cs i v V := by
  match i with
  | 0 | 1 | 2 | 3 | 4 | 5 | 6 => exact h
  | 7 =>
    obtain ⟨g, e, h1, h2⟩ := h
    exact ⟨g, e, h1, gAt h2 hg (by simp)⟩
  | i + 8 => trivial
theorem take_snoc {α : Type} {l : List α} {n : Nat} {x : α} (h : l[n]? = some x) : l.take (n + 1) = l.take n ++ [x] := by
  rw [List.take_add_one, h]
  rfl

end Go.Proofs.YtlkijbakfoabaaaDoor.Scene

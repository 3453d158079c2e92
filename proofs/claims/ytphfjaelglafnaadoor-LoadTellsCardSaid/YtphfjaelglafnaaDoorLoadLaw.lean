/-
  Tables of requests that may be, six of them or more, tell each route that is drawn; rows that the call owns, opened.
-/
import Derived.Test.YtphfjaelglafnaaDoorLoadDraw
import Derived.Test.YtphfjaelglafnaaDoorUp
namespace Go.Proofs.YtphfjaelglafnaaDoor.Load
open Go.RowKit Go.Sort Go.Proofs.YtphfjaelglafnaaDoor.Mem Go.Proofs.YtphfjaelglafnaaDoor.Route Go.Proofs.YtphfjaelglafnaaDoor.When
set_option linter.unusedVariables false

/-- All of these requests may be. -/
def OkT (t : List Rq) : Prop := ∀ q ∈ t, q.chk = 0
theorem OkT.nil : OkT [] := fun q h => by cases h
theorem OkT.snoc {t : List Rq} (h : OkT t) {q : Rq} (hq : q.chk = 0) : OkT (t ++ [q]) := fun x hx => by
  rcases List.mem_append.1 hx with hx | hx
  · exact h x hx
  · obtain rfl := List.mem_singleton.1 hx; exact hq
theorem OkT.tab (ns : List Int) (hb : ∀ x ∈ ns, 0 ≤ x ∧ x < 65536) : OkT (tabL ns) := fun q hq => by
  obtain ⟨x, hx, rfl⟩ := List.mem_map.1 hq
  have := hb x hx
  exact rqL_chk (by omega) (by omega)
theorem told_drawn {l : List (Int × Int)} {t : List Rq} {k : Nat} (hD : Drawn l k) (hk : k ≤ 6) (ht : OkT t) (hn : 6 ≤ t.length) : toldV l t = 0 := by
  have hl : l.length = 2 * k := hD.2.1
  have hc : checkV l = 0 := by
    unfold checkV
    rw [if_neg (by omega), if_pos hD.1]
  refine told_ok hc ?_ ?_
  · rw [Bool.eq_false_iff]
    intro h
    obtain ⟨s, hs, e⟩ := List.any_eq_true.1 h
    have := hD.2.2 s hs
    simp [outB] at e
    omega
  · rw [Bool.eq_false_iff]
    intro h
    obtain ⟨s, hs, e⟩ := List.any_eq_true.1 h
    have h1 := hD.2.2 s hs
    have h2 := (isR_iff.1 hD.1 s hs).1
    have hq : t[s.1.toNat]? = some (t[s.1.toNat]'(by omega)) := List.getElem?_eq_getElem _
    unfold badB at e
    rw [hq] at e
    have := ht _ (List.getElem_mem (h := (by omega : s.1.toNat < t.length)))
    simp [this] at e
theorem prof_told {l : List (Int × Int)} {t : List Rq} (h : toldV l t = 0) : profV l t = prof t l := by unfold profV; rw [if_pos h]

/-- How many a slice has. -/
def lenV : Value → Nat
  | .slice _ n _ => n
  | _ => 0
theorem ownSlice {W : World} {base size k : Nat} {e : TypeId} {v : Value} {xs : List Value} (h : W.ownsRow base e size v k xs) : ∃ x cap, v = .slice x k cap ∧ cap ≤ maxLen ∧ k ≤ cap := by
  obtain ⟨hl, ⟨rfl, h0⟩ | ⟨g, cap, cur, rfl, hb, hg, hc1, hc2, hs, ht⟩⟩ := h
  · exact ⟨none, 0, by rw [h0], Nat.zero_le _, by omega⟩
  · exact ⟨_, cap, rfl, hc2, hc1⟩

/-- A table that the call owns, with its slice. -/
def TabO (base : Nat) (W : World) (u : Value) : Prop := ∃ (T : List Rq) (x : Option Addr) (c : Nat), OkT T ∧ T.length ≤ 12 ∧ u = .slice x T.length c ∧ W.ownsRow base 55 10 u T.length (flatQ T)
theorem TabO.of {base : Nat} {W : World} {u : Value} {T : List Rq} (h1 : OkT T) (h2 : T.length ≤ 12) (h : W.ownsRow base 55 10 u T.length (flatQ T)) : TabO base W u := by
  obtain ⟨x, c, rfl, _⟩ := ownSlice h
  exact ⟨T, x, c, h1, h2, rfl, h⟩
theorem TabO.rqs {base : Nat} {W : World} {u : Value} (h : TabO base W u) : ∃ (T : List Rq) (x : Option Addr) (N c : Nat), OkT T ∧ T.length = N ∧ N ≤ 12 ∧ N ≤ c ∧ c ≤ maxLen ∧ u = .slice x N c ∧ Rqs W.heap.size W u T := by
  obtain ⟨T, x, c, h1, h2, rfl, h3⟩ := h
  obtain ⟨x', c', e, h4, h5⟩ := ownSlice h3
  cases e
  exact ⟨T, x, T.length, c, h1, rfl, h2, h5, h4, rfl, Rqs.of_owns h3 rfl (Nat.le_refl _)⟩
/-- The drawn table. -/
theorem table_tab (v : Value) (ns : List Int) (hb : ∀ x ∈ ns, 0 ≤ x ∧ x < 65536) (w : World) (h : RowB w.heap.size w v 1 (ns.map wdV)) :
    Calls Tryd.prog 18 #[v] w fun e w' => (∃ u, e = .returned u ∧ TabO w.heap.size w' u) ∧ Below w.heap.size w w' :=
  (table_any v ns hb w h).mono fun e w' ⟨⟨u, he, hu⟩, hb'⟩ => ⟨⟨u, he, TabO.of (OkT.tab _ fun x hx => hb x (List.mem_of_mem_take hx)) (by simp [tabL]; omega) hu⟩, hb'⟩

end Go.Proofs.YtphfjaelglafnaaDoor.Load

/-
  A drawn scene in which one carrier more owns a request may not be; how often each request is owned: plain lists.
-/
import Derived.Test.YtlkijbakfoabaaaDoorTurnMath
namespace Go.Proofs.YtlkijbakfoabaaaDoor.Scene
open Go.RowKit Go.Proofs.YtlkijbakfoabaaaDoor.Mem Go.Proofs.YtlkijbakfoabaaaDoor.Order
set_option linter.unusedVariables false

def moreS (s : Sc) (c : Nat) (x : Cr) (r : Int) : Sc := ⟨s.reqs, s.cars.set c ⟨x.fleet, x.own ++ [r]⟩, s.lots, s.cm, s.rv, s.sch, s.draws⟩

theorem vehs_all {c : Int} : ∀ {hs : List Vh}, (∀ h ∈ hs, h.chk = 0) → ∀ y ∈ vehsL c hs, y.1 = c ∧ y.2 = 0
  | [], _, y, hy => by simp [vehsL] at hy
  | h :: hs, hh, y, hy => by
    rcases List.mem_cons.1 hy with rfl | hy
    · exact ⟨rfl, hh h List.mem_cons_self⟩
    · exact vehs_all (fun x hx => hh x (List.mem_cons_of_mem _ hx)) y hy
theorem owns_all {N c : Int} : ∀ {rs : List Int} {ps : List (Int × Int)}, (∀ r ∈ rs, 0 ≤ r ∧ r < N) → ∀ y ∈ ownsL N c ps rs, y.1 = c ∧ (y.2 = 0 ∨ y.2 = 13)
  | [], _, _, y, hy => by simp [ownsL] at hy
  | r :: rs, ps, hr, y, hy => by
    rcases List.mem_cons.1 hy with rfl | hy
    · refine ⟨rfl, ?_⟩
      have h0 := hr r List.mem_cons_self
      show clmC N ps r = 0 ∨ clmC N ps r = 13
      unfold clmC
      rw [if_pos (by simp [btwB]; omega)]
      split
      · exact Or.inr rfl
      · exact Or.inl rfl
    · exact owns_all (fun x hx => hr x (List.mem_cons_of_mem _ hx)) y hy
theorem cars_all {N : Int} : ∀ {cs : List Cr} (k : Nat) {ps : List (Int × Int)}, (∀ c ∈ cs, ∀ h ∈ c.fleet, h.chk = 0) → (∀ r ∈ cs.flatMap (·.own), 0 ≤ r ∧ r < N) → ∀ y ∈ carsL N k ps cs, ((k : Int) ≤ y.1 ∧ y.1 < ((k + cs.length : Nat) : Int)) ∧ (y.2 = 0 ∨ y.2 = 13)
  | [], _, _, _, _, y, hy => by simp [carsL] at hy
  | c :: cs, k, ps, hv, hr, y, hy => by
    rw [List.flatMap_cons] at hr
    simp only [carsL] at hy
    simp only [List.length_cons]
    rcases List.mem_append.1 hy with hy | hy
    · have := vehs_all (hv c List.mem_cons_self) y hy
      exact ⟨by omega, Or.inl this.2⟩
    rcases List.mem_append.1 hy with hy | hy
    · have := owns_all (fun r h => hr r (List.mem_append_left _ h)) y hy
      exact ⟨by omega, this.2⟩
    · have := cars_all (k + 1) (fun x hx => hv x (List.mem_cons_of_mem _ hx)) (fun r h => hr r (List.mem_append_right _ h)) y hy
      exact ⟨by omega, this.2⟩
theorem cars_append {N : Int} : ∀ {xs ys : List Cr} (k : Nat) {ps : List (Int × Int)}, carsL N k ps (xs ++ ys) = carsL N k ps xs ++ carsL N (k + xs.length) (ps ++ pairsL k xs) ys
  | [], ys, k, ps => by simp [carsL, pairsL]
  | a :: xs, ys, k, ps => by
    simp only [List.cons_append, carsL, pairsL, cars_append (xs := xs), List.length_cons, List.append_assoc]
    rw [show k + 1 + xs.length = k + (xs.length + 1) by omega]
theorem owns_nodup {N c : Int} : ∀ {rs : List Int} {ps : List (Int × Int)}, Good (ownsL N c ps rs) → rs.Nodup ∧ ∀ r ∈ rs, inP r ps = false
  | [], _, _ => ⟨List.nodup_nil, fun r h => by cases h⟩
  | r :: rs, ps, h => by
    have h0 : clmC N ps r = 0 := h _ List.mem_cons_self
    have ih := owns_nodup (rs := rs) (ps := ps ++ [(r, c)]) (fun y hy => h y (List.mem_cons_of_mem _ hy))
    have h1 : inP r ps = false := by
      unfold clmC at h0
      split at h0
      · cases hp : inP r ps with
        | false => rfl
        | true => rw [hp] at h0; simp at h0
      · simp at h0
    have h2 : ∀ x ∈ rs, inP x ps = false ∧ r ≠ x := by
      intro x hx
      have := ih.2 x hx
      rw [inP_snoc, Bool.or_eq_false_iff] at this
      exact ⟨this.1, by simpa using this.2⟩
    refine ⟨List.nodup_cons.2 ⟨fun hm => (h2 r hm).2 rfl, ih.1⟩, fun x hx => ?_⟩
    rcases List.mem_cons.1 hx with rfl | hx
    · exact h1
    · exact (h2 x hx).1
theorem Good.left {l m : List (Int × Int)} (h : Good (l ++ m)) : Good l := fun x hx => h x (List.mem_append_left _ hx)
theorem Good.right {l m : List (Int × Int)} (h : Good (l ++ m)) : Good m := fun x hx => h x (List.mem_append_right _ hx)
theorem cars_nodup {N : Int} : ∀ {cs : List Cr} (k : Nat) {ps : List (Int × Int)}, Good (carsL N k ps cs) → (cs.flatMap (·.own)).Nodup ∧ ∀ r ∈ cs.flatMap (·.own), inP r ps = false
  | [], _, _, _ => ⟨List.nodup_nil, fun r h => by simp at h⟩
  | c :: cs, k, ps, h => by
    simp only [carsL] at h
    have h1 := owns_nodup h.right.left
    have h2 := cars_nodup (k + 1) h.right.right
    rw [List.flatMap_cons]
    refine ⟨List.nodup_append.2 ⟨h1.1, h2.1, fun a ha b hb e => ?_⟩, fun r hr => ?_⟩
    · subst e
      have := h2.2 a hb
      rw [inP_append, Bool.or_eq_false_iff] at this
      rw [inP_pairs.2 ha] at this
      exact absurd this.2 (by simp)
    · rcases List.mem_append.1 hr with hr | hr
      · exact h1.2 r hr
      · have := h2.2 r hr
        rw [inP_append, Bool.or_eq_false_iff] at this
        exact this.1
theorem tag_good {p : Int} {l : List (Int × Int)} (h : Good l) : (tagL p l).find? (fun x => !good3 x) = none := by
  rw [List.find?_eq_none]
  intro x hx
  obtain ⟨y, hy, rfl⟩ := List.mem_map.1 hx
  simp [good3, h y hy]
theorem set_split {cs : List Cr} {c : Nat} {x : Cr} (h : cs[c]? = some x) (y : Cr) : cs.set c y = cs.take c ++ (y :: cs.drop (c + 1)) := by
  have hc := (List.getElem?_eq_some_iff.1 h).1
  rw [List.set_eq_take_append_cons_drop, if_pos hc]
/-- The first fault is that of the request that has two owners. -/
theorem extra_fault {s : Sc} (h : Drawn s) {c : Nat} {x : Cr} {r : Int} (hc : s.cars[c]? = some x) (hr : 0 ≤ r ∧ r < s.reqs.length) : ∃ i : Int, faultV (moreS s c x r) = (13, 2, i) ∧ (c : Int) ≤ i ∧ i < s.cars.length := by
  have hw := h.num
  have hcn := h.cnum
  have hl := h.lnum
  have hd := h.draw
  have ht := h.term
  have hcl := (List.getElem?_eq_some_iff.1 hc).1
  have hx := List.mem_of_getElem? hc
  have hperm := own_more (cs := s.cars) (j := c) (x := x) r hc
  have hmem : ∀ y ∈ s.cars.set c ⟨x.fleet, x.own ++ [r]⟩, (1 ≤ y.fleet.length ∧ y.fleet.length ≤ 4) ∧ ∀ v ∈ y.fleet, v.chk = 0 := by
    intro y hy
    rcases List.mem_or_eq_of_mem_set hy with hy | rfl
    · exact h.veh y hy
    · exact h.veh x hx
  have hrange : ∀ q ∈ (s.cars.set c ⟨x.fleet, x.own ++ [r]⟩).flatMap (·.own), 0 ≤ q ∧ q < (s.reqs.length : Int) := by
    intro q hq
    rcases List.mem_append.1 (hperm.mem_iff.1 hq) with hq | hq
    · exact (h.all q).1 hq
    · simp at hq; subst hq; exact hr
  have g0 : Good (countsL (moreS s c x r)) := by
    refine Good.cons ?_ (Good.append (fleets_good 0 (fun y hy => (hmem y hy).1)) (Good.cons ?_ Good.nil))
    · show unV _ _ = 0
      unfold unV
      rw [if_pos]
      simp only [listsB, btwB_iff, moreS, Bool.and_eq_true, List.length_set]
      refine ⟨decide_eq_true hw, ⟨?_, ?_⟩, decide_eq_true hl, decide_eq_true hd⟩ <;> omega
    · show unV _ _ = 0
      unfold unV
      rw [if_pos]
      simp only [termsB, btwB_iff, moreS, Bool.and_eq_true]
      omega
  have g1 : Good (reqsL 0 (moreS s c x r).reqs) := reqs_good 0 h.req
  have hall := cars_all (N := s.reqs.length) 0 (ps := []) (fun y hy => (hmem y hy).2) hrange
  have hnot : ¬ Good (carsL s.reqs.length 0 [] (s.cars.set c ⟨x.fleet, x.own ++ [r]⟩)) := by
    intro hg
    have hn := (hperm.nodup_iff.1 (cars_nodup 0 hg).1)
    rw [List.nodup_append] at hn
    exact hn.2.2 r ((h.all r).2 hr) r (by simp) rfl
  have hpre : ∀ y ∈ carsL s.reqs.length 0 [] (s.cars.set c ⟨x.fleet, x.own ++ [r]⟩), y.2 ≠ 0 → (c : Int) ≤ y.1 := by
    intro y hy hy0
    rw [set_split hc, cars_append] at hy
    rcases List.mem_append.1 hy with hy | hy
    · refine absurd ?_ hy0
      refine (cars_good 0 (cs := s.cars.take c) (ps := []) (fun z hz => (h.veh z (List.mem_of_mem_take hz)).2) (fun q hq => ?_) (fun q _ => rfl) ?_) y hy
      · obtain ⟨z, hz, hqz⟩ := List.mem_flatMap.1 hq
        exact (h.all q).1 (List.mem_flatMap.2 ⟨z, List.mem_of_mem_take hz, hqz⟩)
      · have := h.once
        rw [← List.take_append_drop c s.cars, List.flatMap_append, List.nodup_append] at this
        exact this.1
    · have hsub : ∀ q ∈ ((⟨x.fleet, x.own ++ [r]⟩ : Cr) :: s.cars.drop (c + 1)).flatMap (·.own), 0 ≤ q ∧ q < (s.reqs.length : Int) := by
        intro q hq
        refine hrange q ?_
        rw [set_split hc, List.flatMap_append]
        exact List.mem_append_right _ hq
      have := cars_all (0 + (s.cars.take c).length) (fun z hz => (hmem z (by rw [set_split hc]; exact List.mem_append_right _ hz)).2) hsub y hy
      rw [List.length_take] at this
      omega
  have hbad : ∃ y ∈ tagL 2 (carsL s.reqs.length 0 [] (s.cars.set c ⟨x.fleet, x.own ++ [r]⟩)), (!good3 y) = true := by
    apply Classical.byContradiction
    intro hno
    refine hnot (fun y hy => ?_)
    apply Classical.byContradiction
    intro h0
    exact hno ⟨(y.2, 2, y.1), List.mem_map.2 ⟨y, hy, rfl⟩, by simp [good3, h0]⟩
  have hfull : allL (moreS s c x r) = tagL 0 (countsL (moreS s c x r)) ++ (tagL 1 (reqsL 0 (moreS s c x r).reqs) ++ (tagL 2 (carsL s.reqs.length 0 [] (s.cars.set c ⟨x.fleet, x.own ++ [r]⟩)) ++ (tagL 2 (nobodyL (moreS s c x r).reqs.length (pairsL 0 (moreS s c x r).cars) 0 (moreS s c x r).reqs.length) ++ tagL 3 (lotsL (moreS s c x r))))) := by
    unfold allL carriersL
    rw [show tagL 2 (carsL (moreS s c x r).reqs.length 0 [] (moreS s c x r).cars ++ nobodyL (moreS s c x r).reqs.length (pairsL 0 (moreS s c x r).cars) 0 (moreS s c x r).reqs.length) = tagL 2 (carsL s.reqs.length 0 [] (s.cars.set c ⟨x.fleet, x.own ++ [r]⟩)) ++ tagL 2 (nobodyL (moreS s c x r).reqs.length (pairsL 0 (moreS s c x r).cars) 0 (moreS s c x r).reqs.length) from List.map_append, List.append_assoc]
  cases hf : (tagL 2 (carsL s.reqs.length 0 [] (s.cars.set c ⟨x.fleet, x.own ++ [r]⟩))).find? (fun y => !good3 y) with
  | none =>
    obtain ⟨y, hy, hb⟩ := hbad
    exact absurd hb (List.find?_eq_none.1 hf y hy)
  | some y =>
    have hfv : faultV (moreS s c x r) = y := by
      unfold faultV firstBad
      rw [hfull, List.find?_append, tag_good g0, List.find?_append, tag_good g1, List.find?_append, hf]
      rfl
    have hb := List.find?_some hf
    obtain ⟨z, hz, rfl⟩ := List.mem_map.1 (List.mem_of_find?_eq_some hf)
    have hz0 : z.2 ≠ 0 := by simpa [good3] using hb
    have h1 := hall z hz
    have h2 := hpre z hz hz0
    rw [List.length_set] at h1
    refine ⟨z.1, ?_, h2, by omega⟩
    rw [hfv]
    rcases h1.2 with h3 | h3
    · exact absurd h3 hz0
    · rw [h3]
theorem more_fair {s : Sc} (h : Drawn s) {c : Nat} {x : Cr} {r : Int} (hc : s.cars[c]? = some x) (hr : 0 ≤ r ∧ r < s.reqs.length) : Fair (moreS s c x r) := by
  have h1 := h.num
  have hperm := own_more (cs := s.cars) (j := c) (x := x) r hc
  refine fair_of (fun y hy q hq => ?_) (fun l hl => ?_) ?_ (by have := h.lnum; show s.lots.length < 1000000; omega) (by show s.reqs.length < 1000000; omega) (by have := h.cnum; show (s.cars.set c _).length < 1000000; rw [List.length_set]; omega)
  · rcases List.mem_append.1 (hperm.mem_iff.1 (List.mem_flatMap.2 ⟨y, hy, hq⟩)) with hq | hq
    · have := (h.all q).1 hq; omega
    · simp at hq; subst hq; omega
  · have := (h.lot l hl).1; omega
  · rw [pairs_len]
    show ((s.cars.set c _).flatMap (·.own)).length < 1000000
    rw [hperm.length_eq, List.length_append, h.cnt]
    simp
    omega

/-- How often something stands in a row. -/
def cntI (l : List Int) (r : Int) : Int := ((l.count r : Nat) : Int)
theorem cnt_nil (r : Int) : cntI [] r = 0 := rfl
theorem cnt_snoc (l : List Int) (q r : Int) : cntI (l ++ [q]) r = cntI l r + (if q = r then 1 else 0) := by
  unfold cntI
  rw [List.count_append]
  by_cases h : q = r
  · subst h; simp
  · simp [h]
theorem cnt_bound (l : List Int) (r : Int) : 0 ≤ cntI l r ∧ cntI l r ≤ l.length := by
  unfold cntI
  have := List.count_le_length (a := r) (l := l)
  omega
theorem cnt_none {l : List Int} {r : Int} (h : r ∉ l) : cntI l r = 0 := by
  unfold cntI
  rw [List.count_eq_zero_of_not_mem h]
  rfl
theorem cnt_nodup : ∀ {l : List Int} {r : Int}, l.Nodup → r ∈ l → cntI l r = 1
  | [], _, _, h => by cases h
  | x :: l, r, hn, h => by
    rw [List.nodup_cons] at hn
    by_cases hx : x = r
    · subst hx
      have := cnt_none hn.1
      unfold cntI at this ⊢
      rw [List.count_cons]
      simp
      omega
    · have hm : r ∈ l := by
        rcases List.mem_cons.1 h with h | h
        · exact absurd h.symm hx
        · exact h
      have := cnt_nodup hn.2 hm
      unfold cntI at this ⊢
      rw [List.count_cons]
      simp [hx]
      omega
theorem cnt_le_one {l : List Int} {r : Int} (hn : l.Nodup) : cntI l r ≤ 1 := by
  by_cases h : r ∈ l
  · rw [cnt_nodup hn h]; exact Int.le_refl _
  · rw [cnt_none h]; decide

end Go.Proofs.YtlkijbakfoabaaaDoor.Scene

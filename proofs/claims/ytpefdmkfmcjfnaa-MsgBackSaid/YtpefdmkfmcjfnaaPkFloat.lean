import Derived.Test.YtpefdmkfmcjfnaaPkOctStep

namespace Go.Proofs.Ytpefdmkfmcjfnaa.Float
open Go.Sort Go.RowKit
open Go.Proofs.Ytpefdmkfmcjfnaa.Tail (getD_set least)
def okB (l : List Oper) (n : Nat) (ds : List Tmp) : Bool :=
 decide (n + ds.length < l.length) && decide ds.Nodup &&
 ((List.range n).all fun j => ((l[j]?).map fun o => ((o.guard.map fun g => decide (g.1 < j)).getD true) && (o.after.toList.all fun e => decide (e.on < j)) && (ds.all fun d => !(o.looksAt l.toArray).contains d && o.dst != some d) &&
  (List.range j).all fun i => ((l[i]?).map fun o' => o.dst == none || o.dst != o'.dst).getD false).getD false) &&
 ((List.range ds.length).all fun i => ((l[n + i]?).map fun o => o.guard.isNone && o.dst == ds[i]? && o.after.toList.all fun e => decide (e.on < n)).getD false) &&
 ((List.range (n + ds.length)).all fun h => (List.range (n + ds.length + 1)).any fun k => decide (h < k) && ((l[k]?).map fun o => o.after.toList.any fun e => Region.binds .any e && decide (e.on = h)).getD false) &&
 ((List.range (l.length - (n + ds.length))).all fun t => t == 0 || ((l[n + ds.length + t]?).map fun o => o.after.toList.any fun e => Region.binds .any e && decide (e.on + 1 = n + ds.length + t)).getD false) &&
 Region.seqB .any l.toArray (l.length - (n + ds.length)) (n + ds.length) (Array.replicate (n + ds.length) true ++ Array.replicate (l.length - (n + ds.length)) false)
structure Ok (l : List Oper) (n : Nat) (ds : List Tmp) : Prop where
 lt : n + ds.length < l.length
 nodup : ds.Nodup
 head : ∀ j o, j < n → l[j]? = some o → (∀ g, o.guard = some g → g.1 < j) ∧ (∀ e ∈ o.after, e.on < j) ∧ (∀ d ∈ ds, d ∉ o.looksAt l.toArray ∧ o.dst ≠ some d)
 apart : ∀ i j o o', i < j → j < n → l[j]? = some o → l[i]? = some o' → o.dst = none ∨ o.dst ≠ o'.dst
 lays : ∀ i o, i < ds.length → l[n + i]? = some o → o.guard = none ∧ o.dst = ds[i]? ∧ ∀ e ∈ o.after, e.on < n
 first : ∀ h, h < n + ds.length → ∃ k o, h < k ∧ k ≤ n + ds.length ∧ l[k]? = some o ∧ ∃ e ∈ o.after, Region.binds .any e = true ∧ e.on = h
 tail : ∀ t o, n + ds.length < t → l[t]? = some o → ∃ e ∈ o.after, Region.binds .any e = true ∧ e.on + 1 = t
 seq : Region.seqB .any l.toArray (l.length - (n + ds.length)) (n + ds.length) (Array.replicate (n + ds.length) true ++ Array.replicate (l.length - (n + ds.length)) false) = true
theorem ok_of {l : List Oper} {n : Nat} {ds : List Tmp} (h : okB l n ds = true) : Ok l n ds := by
 simp only [okB, Bool.and_eq_true, decide_eq_true_eq, List.all_eq_true, List.mem_range] at h
 obtain ⟨⟨⟨⟨⟨⟨h1, h2⟩, h3⟩, h4⟩, h5⟩, h6⟩, h7⟩ := h
 have hd : ∀ j o, j < n → l[j]? = some o → (∀ g, o.guard = some g → g.1 < j) ∧ (∀ e ∈ o.after, e.on < j) ∧ (∀ d ∈ ds, d ∉ o.looksAt l.toArray ∧ o.dst ≠ some d) ∧ ∀ i, i < j → ∀ o', l[i]? = some o' → o.dst = none ∨ o.dst ≠ o'.dst := by
  intro j o hj ho
  have := h3 j hj
  rw [ho] at this
  simp only [Option.map_some, Option.getD_some, Bool.and_eq_true, List.all_eq_true, decide_eq_true_eq, List.mem_range] at this
  obtain ⟨⟨⟨t1, t2⟩, t3⟩, t4⟩ := this
  refine ⟨fun g hg => by rw [hg] at t1; simpa using t1, fun e he => t2 e (by simpa using he), fun d hd => ?_, fun i hi o' ho' => ?_⟩
  · have := t3 d hd
    simp at this
    exact this
  · have := t4 i hi
    rw [ho'] at this
    simp at this
    exact this
 refine ⟨h1, h2, fun j o hj ho => ⟨(hd j o hj ho).1, (hd j o hj ho).2.1, (hd j o hj ho).2.2.1⟩, fun i j o o' hij hj ho ho' => (hd j o hj ho).2.2.2 i hij o' ho', fun i o hi ho => ?_, fun h hh => ?_, fun t o ht ho => ?_, h7⟩
 · have := h4 i hi
   rw [ho] at this
   simp only [Option.map_some, Option.getD_some, Bool.and_eq_true, List.all_eq_true, decide_eq_true_eq, Option.isNone_iff_eq_none, beq_iff_eq] at this
   exact ⟨this.1.1, this.1.2, fun e he => this.2 e (by simpa using he)⟩
 · have h8 := h5 h hh
   rw [List.any_eq_true] at h8
   obtain ⟨i, hi, h9⟩ := h8
   rw [List.mem_range] at hi
   simp only [Bool.and_eq_true, decide_eq_true_eq] at h9
   obtain ⟨h10, h11⟩ := h9
   cases ho : l[i]? with
   | none => rw [ho] at h11; simp at h11
   | some o =>
    rw [ho] at h11
    simp only [Option.map_some, Option.getD_some, List.any_eq_true, Bool.and_eq_true, decide_eq_true_eq] at h11
    obtain ⟨e, he, hb, hon⟩ := h11
    exact ⟨i, o, h10, by omega, ho, e, by simpa using he, hb, hon⟩
 · have hlt : t < l.length := (List.getElem?_eq_some_iff.1 ho).1
   have := h6 (t - (n + ds.length)) (by omega)
   rw [show n + ds.length + (t - (n + ds.length)) = t by omega, ho] at this
   simp only [Option.map_some, Option.getD_some, Bool.or_eq_true, beq_iff_eq, List.any_eq_true, Bool.and_eq_true, decide_eq_true_eq] at this
   rcases this with h | ⟨e, he, hb, hon⟩
   · omega
   · exact ⟨e, by simpa using he, hb, hon⟩
variable {P : Program} {l : List Oper} {n : Nat} {ds : List Tmp}
structure Fit (l : List Oper) (n : Nat) (ds : List Tmp) (lh la : Array Bool) (done : List (Nat × Nat)) : Prop where
 size : lh.size = n
 sizeAll : la.size = l.length
 same : ∀ j, j < n → la[j]? = lh[j]?
 laid : ∀ i, i < ds.length → la[n + i]? = some (decide (i ∈ done.map Prod.fst))
 rest : ∀ j, n + ds.length ≤ j → j < l.length → la[j]? = some false
 closed : ∀ (j : Nat) (o : Oper), la[j]? = some true → l[j]? = some o → ∀ e ∈ o.after, Region.binds .any e = true → la.getD e.on false = true
theorem stuck {l : List Oper} {n : Nat} {ds : List Tmp} (hk : Ok l n ds) {la : Array Bool} (hs : la.size = l.length)
 (hc : ∀ (j : Nat) (o : Oper), la[j]? = some true → l[j]? = some o → ∀ e ∈ o.after, Region.binds .any e = true → la.getD e.on false = true) :
 ∀ (f h : Nat), h < n + ds.length → n + ds.length - h ≤ f → la[h]? = some false → ∀ (o : Oper), l[n + ds.length]? = some o → ¬ ∀ e ∈ o.after, Region.binds .any e = true → la.getD e.on false = true
 | 0, h, hh, hf, _, _, _ => by omega
 | f + 1, h, hh, hf, hu, o, ho => by
  have hlt := hk.lt
  obtain ⟨k, o2, h1, h2, ho2, e, he, hb, hon⟩ := hk.first h hh
  by_cases hkK : k = n + ds.length
  · subst hkK
    have e1 : o2 = o := by rw [ho] at ho2; exact (Option.some.inj ho2).symm
    subst e1
    intro hall
    have h3 := hall e he hb
    rw [Array.getD_eq_getD_getElem?, hon, hu] at h3
    cases h3
  · refine stuck hk hs hc f k (by omega) (by omega) ?_ o ho
    have hkl : k < la.size := by omega
    rw [Array.getElem?_eq_getElem hkl]
    cases hv : la[k]
    · rfl
    · have h3 := hc k o2 (by rw [Array.getElem?_eq_getElem hkl, hv]) ho2 e he hb
      rw [Array.getD_eq_getD_getElem?, hon, hu] at h3
      cases h3
end Go.Proofs.Ytpefdmkfmcjfnaa.Float

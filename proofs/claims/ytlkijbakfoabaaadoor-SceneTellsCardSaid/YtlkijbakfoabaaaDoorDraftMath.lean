/-
  A scene that is drawn may be: plain numbers and lists.
-/
import Derived.Test.YtlkijbakfoabaaaDoorSceneMath
namespace Go.Proofs.YtlkijbakfoabaaaDoor.Scene
open Go.Proofs.YtlkijbakfoabaaaDoor.Order Go.Proofs.YtlkijbakfoabaaaDoor.Up
set_option linter.unusedVariables false

/-- All is well. -/
def Good (l : List (Int × Int)) : Prop := ∀ x ∈ l, x.2 = 0
theorem Good.nil : Good [] := fun x h => by simp at h
theorem Good.cons {a : Int × Int} {l : List (Int × Int)} (h : a.2 = 0) (hl : Good l) : Good (a :: l) := fun x hx => by
  rcases List.mem_cons.1 hx with rfl | hx
  · exact h
  · exact hl x hx
theorem Good.append {l m : List (Int × Int)} (h : Good l) (h' : Good m) : Good (l ++ m) := fun x hx => by
  rcases List.mem_append.1 hx with hx | hx
  · exact h x hx
  · exact h' x hx
theorem fault_good {s : Sc} (h0 : Good (countsL s)) (h1 : Good (reqsL 0 s.reqs)) (h2 : Good (carriersL s)) (h3 : Good (lotsL s)) : faultV s = (0, 0, 0) := by
  unfold faultV firstBad
  have : (allL s).find? (fun x => !good3 x) = none := by
    rw [List.find?_eq_none]
    intro x hx
    have ht : ∀ p (l : List (Int × Int)), Good l → x ∈ tagL p l → x.1 = 0 := by
      intro p l hl hx
      obtain ⟨y, hy, rfl⟩ := List.mem_map.1 hx
      exact hl y hy
    have hx0 : x.1 = 0 := by
      unfold allL at hx
      rcases List.mem_append.1 hx with hx | hx
      · exact ht _ _ h0 hx
      rcases List.mem_append.1 hx with hx | hx
      · exact ht _ _ h1 hx
      rcases List.mem_append.1 hx with hx | hx
      · exact ht _ _ h2 hx
      · exact ht _ _ h3 hx
    simp [good3, hx0]
  rw [this]
  rfl

theorem reqs_good : ∀ {qs : List Rq} (k : Nat), (∀ q ∈ qs, q.chk = 0) → Good (reqsL k qs)
  | [], _, _ => Good.nil
  | q :: qs, k, h => Good.cons (h q List.mem_cons_self) (reqs_good (k + 1) (fun x hx => h x (List.mem_cons_of_mem _ hx)))
theorem vehs_good (c : Int) : ∀ {hs : List Vh}, (∀ h ∈ hs, h.chk = 0) → Good (vehsL c hs)
  | [], _ => Good.nil
  | x :: hs, h => Good.cons (h x List.mem_cons_self) (vehs_good c (fun y hy => h y (List.mem_cons_of_mem _ hy)))
theorem fleets_good : ∀ {cs : List Cr} (k : Nat), (∀ c ∈ cs, 1 ≤ c.fleet.length ∧ c.fleet.length ≤ 4) → Good (fleetsL k cs)
  | [], _, _ => Good.nil
  | c :: cs, k, h => Good.cons (by
      have := h c List.mem_cons_self
      simp [unV, btwB]
      omega) (fleets_good (k + 1) (fun x hx => h x (List.mem_cons_of_mem _ hx)))

/-- Who is in none of the lists yet, and is a request. -/
theorem clm_good {N : Int} {ps : List (Int × Int)} {r : Int} (h0 : 0 ≤ r ∧ r < N) (h1 : inP r ps = false) : clmC N ps r = 0 := by
  unfold clmC
  rw [if_pos (by simp [btwB]; omega), h1]
  rfl
theorem owns_good {N c : Int} : ∀ {rs : List Int} {ps : List (Int × Int)}, (∀ r ∈ rs, 0 ≤ r ∧ r < N) → (∀ r ∈ rs, inP r ps = false) → rs.Nodup → Good (ownsL N c ps rs)
  | [], _, _, _, _ => Good.nil
  | r :: rs, ps, h0, h1, hn => by
    rw [List.nodup_cons] at hn
    refine Good.cons (clm_good (h0 r List.mem_cons_self) (h1 r List.mem_cons_self)) (owns_good (fun x hx => h0 x (List.mem_cons_of_mem _ hx)) (fun x hx => ?_) hn.2)
    rw [inP_snoc, h1 x (List.mem_cons_of_mem _ hx)]
    have : r ≠ x := fun e => hn.1 (by rw [e]; exact hx)
    simp [this]
theorem inP_pairs {c r : Int} {x : Cr} : inP r (pairsC c x) = true ↔ r ∈ x.own := by
  simp [inP, pairsC]
theorem cars_good {N : Int} : ∀ {cs : List Cr} (k : Nat) {ps : List (Int × Int)}, (∀ c ∈ cs, ∀ h ∈ c.fleet, h.chk = 0) → (∀ r ∈ cs.flatMap (·.own), 0 ≤ r ∧ r < N) → (∀ r ∈ cs.flatMap (·.own), inP r ps = false) → (cs.flatMap (·.own)).Nodup → Good (carsL N k ps cs)
  | [], _, _, _, _, _, _ => Good.nil
  | c :: cs, k, ps, hv, h0, h1, hn => by
    rw [List.flatMap_cons] at h0 h1 hn
    rw [List.nodup_append] at hn
    refine Good.append (vehs_good k (hv c List.mem_cons_self)) (Good.append (owns_good (fun r hr => h0 r (List.mem_append_left _ hr)) (fun r hr => h1 r (List.mem_append_left _ hr)) hn.1) (cars_good (k + 1) (fun x hx => hv x (List.mem_cons_of_mem _ hx)) (fun r hr => h0 r (List.mem_append_right _ hr)) (fun r hr => ?_) hn.2.1))
    rw [inP_append, h1 r (List.mem_append_right _ hr)]
    cases hp : inP r (pairsC k c) with
    | false => rfl
    | true => exact absurd rfl (hn.2.2 r (inP_pairs.1 hp) r hr)
theorem inP_all {r : Int} : ∀ {cs : List Cr} (k : Nat), r ∈ cs.flatMap (·.own) → inP r (pairsL k cs) = true
  | [], _, h => by simp at h
  | c :: cs, k, h => by
    rw [List.flatMap_cons] at h
    simp only [pairsL]
    rw [inP_append]
    rcases List.mem_append.1 h with h | h
    · rw [inP_pairs.2 h]; rfl
    · rw [inP_all (k + 1) h]; simp
theorem nobodyL_good {N : Int} {ps : List (Int × Int)} : ∀ (n k : Nat), ((k + n : Nat) : Int) ≤ N → (∀ r : Int, 0 ≤ r → r < N → inP r ps = true) → Good (nobodyL N ps k n)
  | 0, _, _, _ => Good.nil
  | n + 1, k, hN, h => by
    refine Good.cons ?_ (nobodyL_good n (k + 1) (by omega) h)
    have h1 : inP (k : Int) ps = true := h k (by omega) (by omega)
    have h2 : btwB (k : Int) 0 (N - 1) = true := by simp [btwB]; omega
    simp only [mapP, h2, if_true, whoP_some, h1, unV]
theorem lots_good {N : Int} : ∀ {ls : List Lt} (k : Nat) {ps : List (Int × Int)}, (∀ l ∈ ls, (0 ≤ l.req ∧ l.req < N) ∧ 0 ≤ l.res ∧ l.res ≤ 16777216) → (∀ l ∈ ls, inP l.req ps = false) → (ls.map (·.req)).Nodup → Good (lotsFrom N k ps ls)
  | [], _, _, _, _, _ => Good.nil
  | l :: ls, k, ps, h0, h1, hn => by
    rw [List.map_cons, List.nodup_cons] at hn
    have hl := h0 l List.mem_cons_self
    refine Good.cons (clm_good hl.1 (h1 l List.mem_cons_self)) (Good.cons (by simp [unV, btwB]; omega) (lots_good (k + 1) (fun x hx => h0 x (List.mem_cons_of_mem _ hx)) (fun x hx => ?_) hn.2))
    rw [inP_snoc, h1 x (List.mem_cons_of_mem _ hx)]
    have : l.req ≠ x.req := fun e => hn.1 (by rw [e]; exact List.mem_map_of_mem hx)
    simp [this]

theorem rq_drawn {fx fy tx ty r1 s1 r2 s2 ld sv : Int} (h1 : 500 ≤ fx ∧ fx < 530) (h2 : 500 ≤ fy ∧ fy < 530) (h3 : 500 ≤ tx ∧ tx < 530) (h4 : 500 ≤ ty ∧ ty < 530) (h5 : 0 ≤ r1 ∧ r1 < 60) (h6 : 0 ≤ s1 ∧ s1 < 120) (h7 : 0 ≤ r2 ∧ r2 < 80) (h8 : 0 ≤ s2 ∧ s2 < 120) (h9 : 1 ≤ ld ∧ ld ≤ 9) (h10 : 0 ≤ sv ∧ sv < 5) :
    Rq.chk ⟨fx, fy, tx, ty, 0 + 4 * r1, 0 + 4 * r1 + 10 + 3 * s1, 40 + 4 * r2, 40 + 4 * r2 + 10 + 3 * s2, ld, sv⟩ = 0 := by
  have a1 : (Place.mayB (fx, fy) && Place.mayB (tx, ty)) = true := by simp [Place.mayB, Place.sideB]; omega
  have a2 : (Window.okB (0 + 4 * r1) (0 + 4 * r1 + 10 + 3 * s1) && Window.okB (40 + 4 * r2) (40 + 4 * r2 + 10 + 3 * s2)) = true := by simp [Window.okB]; omega
  have a3 : (btwB ld 1 1000 && btwB sv 0 1000) = true := by simp [btwB]; omega
  simp only [Rq.chk, Order.chk, ff, a1, a2, a3, if_true]
theorem vh_drawn {hx hy cp st t : Int} (h1 : 500 ≤ hx ∧ hx < 530) (h2 : 500 ≤ hy ∧ hy < 530) (h3 : 0 ≤ cp ∧ cp < 20) (h4 : 0 ≤ st ∧ st < 20) (h5 : 0 ≤ t ∧ t < 120) : Vh.chk ⟨hx, hy, 5 + cp, st, 400 + 5 * t⟩ = 0 := by
  have a1 : Place.mayB (hx, hy) = true := by simp [Place.mayB, Place.sideB]; omega
  have a2 : btwB (5 + cp) 1 100000 = true := by simp [btwB]; omega
  have a3 : (btwB st 0 1048576 && btwB (400 + 5 * t) st 1048576) = true := by simp [btwB]; omega
  simp only [Vh.chk, Order.veh, ff, a1, a2, a3, if_true]

/-- A scene as drafts draw it. -/
structure Drawn (s : Sc) : Prop where
  req : ∀ q ∈ s.reqs, q.chk = 0
  veh : ∀ c ∈ s.cars, (1 ≤ c.fleet.length ∧ c.fleet.length ≤ 4) ∧ ∀ h ∈ c.fleet, h.chk = 0
  num : s.reqs.length ≤ 64
  cnum : 1 ≤ s.cars.length ∧ s.cars.length ≤ 8
  lnum : s.lots.length ≤ 16
  draw : s.draws = s.cars.length
  term : (1 ≤ s.cm ∧ s.cm ≤ 64) ∧ (1 ≤ s.rv ∧ s.rv ≤ 64) ∧ 0 ≤ s.sch ∧ s.sch ≤ 1
  once : (s.cars.flatMap (·.own)).Nodup
  cnt : (s.cars.flatMap (·.own)).length = s.reqs.length
  all : ∀ r : Int, r ∈ s.cars.flatMap (·.own) ↔ 0 ≤ r ∧ r < s.reqs.length
  lot : ∀ l ∈ s.lots, (0 ≤ l.req ∧ l.req < s.reqs.length) ∧ 0 ≤ l.res ∧ l.res ≤ 16777216
  apart : (s.lots.map (·.req)).Nodup
theorem drawn_ok {s : Sc} (h : Drawn s) : faultV s = (0, 0, 0) := by
  have hw := h.num
  have hc := h.cnum
  have hl := h.lnum
  have hd := h.draw
  have ht := h.term
  refine fault_good ?_ (reqs_good 0 h.req) ?_ (lots_good 0 h.lot (fun l _ => rfl) h.apart)
  · refine Good.cons ?_ (Good.append (fleets_good 0 (fun c hc => (h.veh c hc).1)) (Good.cons ?_ Good.nil))
    · simp [unV, listsB, btwB]
      omega
    · simp [unV, termsB, btwB]
      omega
  · refine Good.append (cars_good 0 (fun c hc => (h.veh c hc).2) (fun r hr => (h.all r).1 hr) (fun r _ => rfl) h.once) (nobodyL_good _ 0 (by omega) (fun r h0 h1 => inP_all 0 ((h.all r).2 ⟨h0, h1⟩)))

theorem whoP_append (ps qs : List (Int × Int)) (r : Int) : whoP (ps ++ qs) r = if inP r ps then whoP ps r else whoP qs r := by
  unfold whoP
  rw [List.find?_append]
  cases hf : ps.find? (fun p => p.1 == r) with
  | some p =>
    have h1 : inP r ps = true := by rw [← whoP_some]; unfold whoP; rw [hf]; rfl
    simp [h1]
  | none =>
    have h1 : inP r ps = false := by rw [← whoP_some]; unfold whoP; rw [hf]; rfl
    simp [h1]
theorem whoP_pairsD {c : Int} {x : Cr} {r : Int} (h : r ∈ x.own) : whoP (pairsC c x) r = some c := by
  unfold whoP
  cases hf : (pairsC c x).find? (fun p => p.1 == r) with
  | some p =>
    obtain ⟨y, _, rfl⟩ := List.mem_map.1 (List.mem_of_find?_eq_some hf)
    rfl
  | none =>
    rw [List.find?_eq_none] at hf
    exact absurd (by simp) (hf (r, c) (List.mem_map.2 ⟨r, h, rfl⟩))
/-- Who has a request in his list owns it. -/
theorem who_pairs {r : Int} : ∀ {cs : List Cr} (k j : Nat) {c : Cr}, (cs.flatMap (·.own)).Nodup → cs[j]? = some c → r ∈ c.own → whoP (pairsL k cs) r = some ((k + j : Nat) : Int)
  | [], _, _, _, _, h, _ => by simp at h
  | x :: xs, k, j, c, hn, hj, hr => by
    rw [List.flatMap_cons, List.nodup_append] at hn
    simp only [pairsL]
    rw [whoP_append]
    cases j with
    | zero =>
      have e : x = c := by simpa using hj
      subst e
      rw [if_pos (inP_pairs.2 hr), whoP_pairsD hr]
      rfl
    | succ j =>
      have hj' : xs[j]? = some c := by simpa using hj
      have hm : r ∈ xs.flatMap (·.own) := List.mem_flatMap.2 ⟨c, List.mem_of_getElem? hj', hr⟩
      have hx : ¬ inP r (pairsC k x) = true := fun h => hn.2.2 r (inP_pairs.1 h) r hm rfl
      rw [if_neg hx, who_pairs (k + 1) j hn.2.1 hj' hr]
      congr 2
      omega
theorem owner_drawn {s : Sc} (h : Drawn s) {j : Nat} {c : Cr} {r : Int} (hj : s.cars[j]? = some c) (hr : r ∈ c.own) : ownerV s r = j := by
  unfold ownerV
  rw [who_pairs 0 j h.once hj hr]
  simp

end Go.Proofs.YtlkijbakfoabaaaDoor.Scene

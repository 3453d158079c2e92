/-
  A scene in rows of which some are the call's own: kept through stores into the call's variables.
-/
import Derived.Test.YtlkijbakfoabaaaDoorTellMath
namespace Go.Proofs.YtlkijbakfoabaaaDoor.Scene
open Go.RowKit Go.Sort Go.Proofs.YtlkijbakfoabaaaDoor.Mem
set_option linter.unusedVariables false

theorem flatLenT {rows : List (List Value)} {m : Nat} : (∀ r ∈ rows, r.length = m) → rows.flatten.length = rows.length * m := by
  induction rows with
  | nil => intro _; simp
  | cons r rows ih =>
    intro h
    rw [List.flatten_cons, List.length_append, h r List.mem_cons_self, ih (fun x hx => h x (List.mem_cons_of_mem _ hx)), List.length_cons, Nat.add_mul]
    omega
/-- A row's cells, one behind the other. -/
theorem RowB.flatT {B g o len cap m : Nat} {W : World} {rows : List (List Value)} (h : RowB B W (.slice (some ⟨g, o, none⟩) len cap) m rows) (hm : ∀ r ∈ rows, r.length = m) (hm0 : 0 < m) : ∀ (d : Nat) (u : Value), rows.flatten[d]? = some u → g < B ∧ W.cell? ⟨g, o + d, none⟩ = some u := by
  intro d u hu
  have hd := (List.getElem?_eq_some_iff.1 hu).1
  rw [flatLenT hm] at hd
  have hj : d / m < rows.length := Nat.div_lt_of_lt_mul (by rw [Nat.mul_comm]; exact hd)
  obtain ⟨r, hr⟩ : ∃ r, rows[d / m]? = some r := ⟨_, List.getElem?_eq_getElem hj⟩
  have hrl := hm r (List.mem_of_getElem? hr)
  have hk : d % m < r.length := by rw [hrl]; exact Nat.mod_lt _ hm0
  have e : d / m * m + d % m = d := Nat.div_add_mod' d m
  have h1 := flat_get hm (d / m) r hr (d % m) _ (List.getElem?_eq_getElem hk)
  rw [e, hu] at h1
  obtain ⟨x, cap', he, _, _, h3⟩ := h
  cases he
  obtain ⟨g', o', he', hg, hc⟩ := h3 _ _ hr
  cases he'
  refine ⟨hg, ?_⟩
  have := hc (d % m) _ (List.getElem?_eq_getElem hk)
  rw [Nat.add_assoc, e] at this
  rw [this, h1]
theorem addPlainT (g o j : Nat) : (⟨g, o, none⟩ : Addr).add j = ⟨g, o + j, none⟩ := by
  unfold Addr.add
  split
  · rename_i h; rw [h]; rfl
  · rfl
theorem addBlockT (a : Addr) (j : Nat) : (a.add j).block = a.block := by
  unfold Addr.add
  split <;> rfl
theorem RowB.flatAT {B len cap m : Nat} {ad : Addr} {W : World} {rows : List (List Value)} (h : RowB B W (.slice (some ad) len cap) m rows) (hm : ∀ r ∈ rows, r.length = m) (hm0 : 0 < m) : ∀ (d : Nat) (u : Value), rows.flatten[d]? = some u → ad.block < B ∧ W.cell? (ad.add d) = some u := by
  intro d u hu
  have hd := (List.getElem?_eq_some_iff.1 hu).1
  have hne : 0 < rows.length := by
    rcases Nat.eq_zero_or_pos rows.length with h0 | h0
    · rw [List.eq_nil_of_length_eq_zero h0] at hd; simp at hd
    · exact h0
  obtain ⟨g, o, he, _⟩ := h.row (List.getElem?_eq_getElem hne)
  obtain rfl : ad = ⟨g, o, none⟩ := Option.some.inj he
  rw [addPlainT]
  exact h.flatT hm hm0 d u hu
theorem CarsAt.one_T {B : Nat} {W : World} {v : Value} {us : List (Value × Value)} {cs : List Cr} (h : CarsAt B W v us cs) : ∀ y ∈ flatC us, y.oneCell' = true := by
  intro y hy
  obtain ⟨l, hl, hyl⟩ := List.mem_flatten.1 hy
  obtain ⟨u, hu, rfl⟩ := List.mem_map.1 hl
  obtain ⟨j, hj⟩ := List.getElem?_of_mem hu
  have hjl : j < cs.length := by rw [← h.len]; exact (List.getElem?_eq_some_iff.1 hj).1
  obtain ⟨⟨x1, c1, e1, _⟩, ⟨x2, c2, e2, _⟩⟩ := h.car j u _ hj (List.getElem?_eq_getElem hjl)
  simp at hyl
  rcases hyl with rfl | rfl
  · rw [e1]; rfl
  · rw [e2]; rfl
theorem belowAT (w : World) (o : Obj) : Below w.heap.size w (w.alloc o) := (Below.refl _ _).alloc (Nat.le_refl _) _
theorem onesT {α : Type} {f : α → List Value} (hf : ∀ x, ∀ y ∈ f x, y.oneCell' = true) (l : List α) : ∀ y ∈ (l.map f).flatten, y.oneCell' = true := by
  intro y hy
  obtain ⟨r, hr, hyr⟩ := List.mem_flatten.1 hy
  obtain ⟨x, _, rfl⟩ := List.mem_map.1 hr
  exact hf x y hyr
theorem flatC_set0 : ∀ {us : List (Value × Value)} {j : Nat} {u : Value × Value} (v : Value), us[j]? = some u → (flatC us).set (j * 2) v = flatC (us.set j (v, u.2))
  | [], _, _, _, h => by simp at h
  | x :: us, 0, u, v, h => by
    have e : x = u := by simpa using h
    subst e
    simp [flatC]
  | x :: us, j + 1, u, v, h => by
    have h' : us[j]? = some u := by simpa using h
    have ih := flatC_set0 v h'
    have e : ∀ x' us', flatC (x' :: us') = x'.1 :: x'.2 :: flatC us' := by intros; simp [flatC]
    rw [List.set_cons_succ, e, e, show (j + 1) * 2 = j * 2 + 1 + 1 by omega]
    simp only [List.set_cons_succ, ih]
/-- The cells of a row that is copied. -/
theorem newsT {B m : Nat} {w0 W : World} {vx : Value} {rows : List (List Value)} (h : RowB B w0 vx m rows) (hb : Below B w0 W) (hm : ∀ r ∈ rows, r.length = m) (hm0 : 0 < m) {len : Nat} : ∀ ad c, vx = .slice (some ad) len c → ∀ (j : Nat) (u : Value), rows.flatten[j]? = some u → W.cell? (ad.add j) = some u := by
  intro ad c he j u hu
  subst he
  have h1 := h.flatAT hm hm0 j u hu
  exact (hb.cell (p := ad.add j) (by rw [addBlockT]; exact h1.1)).trans h1.2
/-- A row of old cells, or of the call's own. -/
def RowX (n0 B : Nat) (W : World) (v : Value) (m : Nat) (rows : List (List Value)) : Prop := RowB n0 W v m rows ∨ ∃ e, W.ownsRow B e m v rows.length rows.flatten
/-- A change of new blocks, or of variables that lie between the old blocks and the rows. -/
def Between (n0 B : Nat) (W : World) (row : Option Nat) : Prop := ∀ x, row = some x → (n0 ≤ x ∧ x < B) ∨ W.heap.size ≤ x
section
variable {n0 B : Nat} {W V : World} {v : Value} {m : Nat} {rows : List (List Value)} {row : Option Nat}
theorem RowX.keep (h : RowX n0 B W v m rows) (hg : W.grownBy V row) (hn : n0 ≤ W.heap.size) (hr : Between n0 B W row) : RowX n0 B V v m rows := by
  rcases h with h | ⟨e, h⟩
  · exact Or.inl (h.keep ((Below.refl n0 W).grown hg hn (fun x e => by rcases hr x e with h1 | h1 <;> omega)) (Nat.le_refl _))
  · refine Or.inr ⟨e, h.kept hg (rowFree h (fun x e => ?_))⟩
    rcases hr x e with h1 | h1
    · exact Or.inl h1.2
    · exact Or.inr h1
theorem RowX.toB (h : RowX n0 B W v m rows) (hn : n0 ≤ W.heap.size) (hm : ∀ r ∈ rows, r.length = m) : RowB W.heap.size W v m rows := by
  rcases h with h | ⟨e, h⟩
  · exact h.more hn
  · exact RowB.of_owns h rfl hm
end
structure CarX (n0 B : Nat) (W : World) (u : Value × Value) (c : Cr) : Prop where
  fleet : RowX n0 B W u.1 5 (c.fleet.map vhV)
  own : RowX n0 B W u.2 1 (c.own.map inV)
structure SceneX (n0 B : Nat) (W : World) (vR vC vL vD : Value) (us : List (Value × Value)) (s : Sc) : Prop where
  reqs : RowX n0 B W vR 10 (s.reqs.map rqV)
  len : us.length = s.cars.length
  cars : RowX n0 B W vC 2 (us.map fun u => [u.1, u.2])
  car : ∀ (j : Nat) (u : Value × Value) (c : Cr), us[j]? = some u → s.cars[j]? = some c → CarX n0 B W u c
  lots : RowX n0 B W vL 2 (s.lots.map ltV)
  draws : ∃ x cap, vD = .slice x s.draws cap ∧ s.draws ≤ cap ∧ cap ≤ maxLen
section
variable {n0 B : Nat} {W V : World} {vR vC vL vD : Value} {us : List (Value × Value)} {s : Sc} {row : Option Nat}
theorem SceneX.keep (h : SceneX n0 B W vR vC vL vD us s) (hg : W.grownBy V row) (hn : n0 ≤ W.heap.size) (hr : Between n0 B W row) : SceneX n0 B V vR vC vL vD us s :=
  ⟨h.reqs.keep hg hn hr, h.len, h.cars.keep hg hn hr, fun j u c hu hc => ⟨(h.car j u c hu hc).fleet.keep hg hn hr, (h.car j u c hu hc).own.keep hg hn hr⟩, h.lots.keep hg hn hr, h.draws⟩
theorem SceneX.at_ (h : SceneX n0 B W vR vC vL vD us s) (hn : n0 ≤ W.heap.size) : SceneAt W.heap.size W vR vC vL vD us s :=
  ⟨h.reqs.toB hn (rowsLen (f := rqV) (m := 10) (fun _ => rfl) _), ⟨h.len, h.cars.toB hn (rowsLen (f := fun u : Value × Value => [u.1, u.2]) (m := 2) (fun _ => rfl) _), fun j u c hu hc =>
    ⟨(h.car j u c hu hc).fleet.toB hn (rowsLen (f := vhV) (m := 5) (fun _ => rfl) _), (h.car j u c hu hc).own.toB hn (rowsLen (f := inV) (m := 1) (fun _ => rfl) _)⟩⟩,
    h.lots.toB hn (rowsLen (f := ltV) (m := 2) (fun _ => rfl) _), h.draws⟩
end
/-- The turned scene's rows: one carrier's, the requests', the lots' are the call's own. -/
theorem mkX {n0 B : Nat} {w0 W : World} {vR0 vC0 vL0 vD0 vR l vL vD F O : Value} {us : List (Value × Value)} {s : Sc} {c : Nat} {u : Value × Value} {x : Cr} {reqs : List Rq} {lots : List Lt} {fl : List Vh} {own : List Int} {nd : Nat} (cm rv sch : Int)
    (hS : SceneAt n0 w0 vR0 vC0 vL0 vD0 us s) (hb : Below n0 w0 W) (hu : us[c]? = some u) (hx : s.cars[c]? = some x)
    (hR : W.ownsRow B 66 10 vR reqs.length (flatR reqs)) (hL : W.ownsRow B 59 2 vL lots.length (flatL lots)) (hl : W.ownsRow B 53 2 l us.length (flatC (us.set c (F, O))))
    (hF : W.ownsRow B 57 5 F fl.length (flatV fl)) (hO : W.ownsRow B 3 1 O own.length (flatI own)) (hD : ∃ x cap, vD = .slice x nd cap ∧ nd ≤ cap ∧ cap ≤ maxLen) :
    SceneX n0 B W vR l vL vD (us.set c (F, O)) ⟨reqs, s.cars.set c ⟨fl, own⟩, lots, cm, rv, sch, nd⟩ := by
  have hcl : c < us.length := (List.getElem?_eq_some_iff.1 hu).1
  refine ⟨Or.inr ⟨66, by rw [List.length_map]; exact hR⟩, by simp [hS.cars.len], Or.inr ⟨53, by rw [List.length_map, List.length_set]; exact hl⟩, fun j y z hy hz => ?_, Or.inr ⟨59, by rw [List.length_map]; exact hL⟩, hD⟩
  by_cases hij : c = j
  · subst hij
    rw [List.getElem?_set_self hcl] at hy
    have hz' : (s.cars.set c ⟨fl, own⟩)[c]? = some z := hz
    rw [List.getElem?_set_self (by rw [← hS.cars.len]; exact hcl)] at hz'
    cases hy
    cases hz'
    exact ⟨Or.inr ⟨57, by rw [List.length_map]; exact hF⟩, Or.inr ⟨3, by rw [List.length_map]; exact hO⟩⟩
  · rw [List.getElem?_set_ne hij] at hy
    have hz' : (s.cars.set c ⟨fl, own⟩)[j]? = some z := hz
    rw [List.getElem?_set_ne hij] at hz'
    have h1 := hS.cars.car j y z hy hz'
    exact ⟨Or.inl (h1.fleet.keep hb (Nat.le_refl _)), Or.inl (h1.own.keep hb (Nat.le_refl _))⟩

theorem set_len_le : ∀ {cs : List Cr} {j : Nat} {y : Cr}, ((cs.set j y).flatMap (·.own)).length ≤ (cs.flatMap (·.own)).length + y.own.length
  | [], _, _ => by simp
  | z :: cs, 0, y => by simp; omega
  | z :: cs, j + 1, y => by
    have := set_len_le (cs := cs) (j := j) (y := y)
    simp only [List.set_cons_succ, List.flatMap_cons, List.length_append]
    omega
theorem i64_small {r : Int} (h : 0 ≤ r ∧ r < 1000) : I64 r := by
  unfold I64
  omega
theorem mkFair {s : Sc} (h : Drawn s) (c : Nat) {reqs : List Rq} {lots : List Lt} {fl : List Vh} {own : List Int} (cm rv sch : Int) (nd : Nat) (h1 : reqs.length ≤ 100) (h2 : lots.length ≤ 100) (h3 : own.length ≤ 100) (h4 : ∀ r ∈ own, I64 r) (h5 : ∀ l ∈ lots, I64 l.req) :
    Fair ⟨reqs, s.cars.set c ⟨fl, own⟩, lots, cm, rv, sch, nd⟩ := by
  have hn := h.num
  refine ⟨fun y hy r hr => ?_, h5, ?_, by show lots.length < 4294967296; omega, by show reqs.length ≤ 140737488351232; omega, by have := h.cnum; show (s.cars.set c _).length ≤ 140737488351232; rw [List.length_set]; omega⟩
  · rcases List.mem_or_eq_of_mem_set hy with hy | rfl
    · have := (h.all r).1 (List.mem_flatMap.2 ⟨y, hy, hr⟩)
      exact i64_small (by omega)
    · exact h4 r hr
  · rw [pairs_len]
    have h7 : ((s.cars.set c ⟨fl, own⟩).flatMap (·.own)).length ≤ s.reqs.length + own.length := by
      have := set_len_le (cs := s.cars) (j := c) (y := ⟨fl, own⟩)
      rw [h.cnt] at this
      exact this
    show ((s.cars.set c ⟨fl, own⟩).flatMap (·.own)).length < 4294967296
    omega
theorem drawn_i64 {s : Sc} (h : Drawn s) : (∀ x ∈ s.cars, ∀ r ∈ x.own, I64 r) ∧ ∀ l ∈ s.lots, I64 l.req := by
  have hn := h.num
  refine ⟨fun x hx r hr => i64_small ?_, fun l hl => i64_small ?_⟩
  · have := (h.all r).1 (List.mem_flatMap.2 ⟨x, hx, hr⟩)
    omega
  · have := (h.lot l hl).1
    omega

end Go.Proofs.YtlkijbakfoabaaaDoor.Scene

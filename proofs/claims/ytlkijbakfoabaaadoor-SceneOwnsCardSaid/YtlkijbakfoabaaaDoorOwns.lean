/-
  SceneOwns returns true, of every draft and number.
-/
import Derived.Test.YtlkijbakfoabaaaDoorDraftScene
import Derived.Test.YtlkijbakfoabaaaDoorOwnsMath
import Derived.Test.YtlkijbakfoabaaaDoorSceneTold
import Derived.Test.YtlkijbakfoabaaaDoorSceneWorks2
import Derived.Test.YtlkijbakfoabaaaDoorSceneOwners
import Derived.OwnWalk
import Derived.Laws.AppendOwnNone
namespace Go.Proofs.YtlkijbakfoabaaaDoor.Scene
open Go.RowKit Go.Sort Go.Proofs.YtlkijbakfoabaaaDoor.Mem
set_option linter.unusedVariables false

theorem Hd.grownD {w v : World} (h : Hd w) {g : Nat} (hg : w.grownBy v (some g)) (h0 : 0 < g) : Hd v := hg.cell h (by simp; omega)
theorem belowA (w : World) (o : Obj) : Below w.heap.size w (w.alloc o) := (Below.refl _ _).alloc (Nat.le_refl _) _
def zeros (n : Nat) : List Value := List.replicate n (.int .i64 0)
theorem zeros_get {n r : Nat} (h : r < n) : (zeros n)[r]? = some (.int .i64 0) := by simp [zeros, h]
def V8 (N n : Nat) : Nat → Value → World → Prop
  | 0, y, _ => y = .int .i64 n
  | 1, y, W => ∃ g : Nat, y = .slice (some ⟨g, 0, none⟩) n n ∧ W.ownsRow N 3 1 (.slice (some ⟨g, 0, none⟩) n n) n (zeros n)
  | 2, y, _ => y = .int .i64 n
  | 3, y, W => ∃ g : Nat, y = .slice (some ⟨g, 0, none⟩) n n ∧ W.ownsRow N 3 1 (.slice (some ⟨g, 0, none⟩) n n) n (zeros n)
  | _, _, _ => True
theorem V8.keep {N n i : Nat} {v : Value} {W V : World} (h : V8 N n i v W) (hg : W.grownBy V none) : V8 N n i v V := by
  match i with
  | 0 | 2 => exact h
  | 1 | 3 =>
    obtain ⟨g, e, h1⟩ := h
    exact ⟨g, e, h1.kept hg (rowFree h1 (fun x e => by cases e))⟩
  | i + 4 => trivial
def Z8 (done : Nat → Bool) (ys : Nat → Value) (W : World) : Prop := (done 1 = true → done 3 = true → ys 1 ≠ ys 3) ∧ (done 4 = true → done 1 = true ∧ ys 4 = ys 1)
theorem Z8.light {done : Nat → Bool} {ys : Nat → Value} {W V : World} {v : Value} {i : Nat} (h : Z8 done ys W) (hi : i ≠ 1) (hi3 : i ≠ 3) (hi4 : i ≠ 4) : Z8 (Sched.mark done i) (Sched.upd ys i v) V := by
  have e1 : Sched.mark done i 1 = done 1 := if_neg (fun e => hi e.symm)
  have e3 : Sched.mark done i 3 = done 3 := if_neg (fun e => hi3 e.symm)
  have e4 : Sched.mark done i 4 = done 4 := if_neg (fun e => hi4 e.symm)
  have u1 : Sched.upd ys i v 1 = ys 1 := by simp [Sched.upd, show ¬ 1 = i from fun e => hi e.symm]
  have u3 : Sched.upd ys i v 3 = ys 3 := by simp [Sched.upd, show ¬ 3 = i from fun e => hi3 e.symm]
  have u4 : Sched.upd ys i v 4 = ys 4 := by simp [Sched.upd, show ¬ 4 = i from fun e => hi4 e.symm]
  unfold Z8
  rw [e1, e3, e4, u1, u3, u4]
  exact h

theorem Z8.start (ys : Nat → Value) (W : World) : Z8 (fun _ => false) ys W := ⟨(fun h => by cases h), (fun h => by cases h)⟩
/-- A row that counts what stands in a list. -/
def CntAt (W : World) (B : Nat) (g n : Nat) (l : List Int) : Prop := ∃ xs, W.ownsRow B 3 1 (.slice (some ⟨g, 0, none⟩) n n) n xs ∧ ∀ r : Nat, r < n → xs[r]? = some (.int .i64 (cntI l r))
theorem CntAt.start {W : World} {B g n : Nat} (h : W.ownsRow B 3 1 (.slice (some ⟨g, 0, none⟩) n n) n (zeros n)) : CntAt W B g n [] := ⟨_, h, fun r hr => zeros_get hr⟩
theorem CntAt.kept {W V : World} {B g n : Nat} {l : List Int} (h : CntAt W B g n l) {row : Option Nat} (hg : W.grownBy V row) (hr : row ≠ some g) : CntAt V B g n l := by
  obtain ⟨xs, h1, h2⟩ := h
  exact ⟨xs, h1.kept hg (Or.inr (fun e => hr e.symm)), h2⟩
theorem CntAt.cell {W : World} {B g n : Nat} {l : List Int} (h : CntAt W B g n l) {r : Nat} (hr : r < n) : W.cell? ⟨g, r, none⟩ = some (.int .i64 (cntI l r)) ∧ W.frozen? ⟨g, r, none⟩ = false := by
  obtain ⟨xs, h1, h2⟩ := h
  exact ⟨(h1.cellAt r (by omega)).trans (h2 r hr), h1.frozenAt r⟩
theorem CntAt.put {W : World} {B g n : Nat} {l : List Int} (h : CntAt W B g n l) {q : Nat} (hq : q < n) : CntAt (W.setCell ⟨g, q, none⟩ (.int .i64 (cntI l q + 1))) B g n (l ++ [(q : Int)]) := by
  obtain ⟨xs, h1, h2⟩ := h
  have hx := h1.1
  refine ⟨_, (h1.stored q (.int .i64 (cntI l q + 1))).1, fun r hr => ?_⟩
  rw [cnt_snoc]
  by_cases e : q = r
  · subst e
    rw [List.getElem?_set_self (by omega)]
    simp
  · rw [List.getElem?_set_ne e, h2 r hr, if_neg (by omega)]
    simp
theorem CntAt.lt {W : World} {B g n : Nat} {l : List Int} (h : CntAt W B g n l) : B ≤ g ∧ g < W.heap.size := by
  obtain ⟨xs, h1, _⟩ := h
  exact h1.lt g rfl

theorem flatLen {rows : List (List Value)} {m : Nat} : (∀ r ∈ rows, r.length = m) → rows.flatten.length = rows.length * m := by
  induction rows with
  | nil => intro _; simp
  | cons r rows ih =>
    intro h
    rw [List.flatten_cons, List.length_append, h r List.mem_cons_self, ih (fun x hx => h x (List.mem_cons_of_mem _ hx)), List.length_cons, Nat.add_mul]
    omega
/-- A row's cells, one behind the other. -/
theorem RowB.flat {B g o len cap m : Nat} {W : World} {rows : List (List Value)} (h : RowB B W (.slice (some ⟨g, o, none⟩) len cap) m rows) (hm : ∀ r ∈ rows, r.length = m) (hm0 : 0 < m) : ∀ (d : Nat) (u : Value), rows.flatten[d]? = some u → g < B ∧ W.cell? ⟨g, o + d, none⟩ = some u := by
  intro d u hu
  have hd := (List.getElem?_eq_some_iff.1 hu).1
  rw [flatLen hm] at hd
  have hj : d / m < rows.length := Nat.div_lt_of_lt_mul (by rw [Nat.mul_comm]; exact hd)
  obtain ⟨r, hr⟩ : ∃ r, rows[d / m]? = some r := ⟨_, List.getElem?_eq_getElem hj⟩
  have hrl := hm r (List.mem_of_getElem? hr)
  have hk : d % m < r.length := by rw [hrl]; exact Nat.mod_lt _ hm0
  have e : d / m * m + d % m = d := Nat.div_add_mod' d m
  have h1 := flat_get hm (d / m) r hr (d % m) _ (List.getElem?_eq_getElem hk)
  rw [e, hu] at h1
  obtain ⟨x, cap', he, _, _, h3⟩ := h
  cases he
  obtain ⟨g', o', he', hg, hc⟩ := h3 _ _ hr
  cases he'
  refine ⟨hg, ?_⟩
  have := hc (d % m) _ (List.getElem?_eq_getElem hk)
  rw [Nat.add_assoc, e] at this
  rw [this, h1]
theorem addPlain (g o j : Nat) : (⟨g, o, none⟩ : Addr).add j = ⟨g, o + j, none⟩ := by
  unfold Addr.add
  split
  · rename_i h; rw [h]; rfl
  · rfl
theorem addBlock (a : Addr) (j : Nat) : (a.add j).block = a.block := by
  unfold Addr.add
  split <;> rfl
theorem RowB.flatA {B len cap m : Nat} {ad : Addr} {W : World} {rows : List (List Value)} (h : RowB B W (.slice (some ad) len cap) m rows) (hm : ∀ r ∈ rows, r.length = m) (hm0 : 0 < m) : ∀ (d : Nat) (u : Value), rows.flatten[d]? = some u → ad.block < B ∧ W.cell? (ad.add d) = some u := by
  intro d u hu
  have hd := (List.getElem?_eq_some_iff.1 hu).1
  have hne : 0 < rows.length := by
    rcases Nat.eq_zero_or_pos rows.length with h0 | h0
    · rw [List.eq_nil_of_length_eq_zero h0] at hd; simp at hd
    · exact h0
  obtain ⟨g, o, he, _⟩ := h.row (List.getElem?_eq_getElem hne)
  obtain rfl : ad = ⟨g, o, none⟩ := Option.some.inj he
  rw [addPlain]
  exact h.flat hm hm0 d u hu
theorem CarsAt.one_ {B : Nat} {W : World} {v : Value} {us : List (Value × Value)} {cs : List Cr} (h : CarsAt B W v us cs) : ∀ y ∈ flatC us, y.oneCell' = true := by
  intro y hy
  obtain ⟨l, hl, hyl⟩ := List.mem_flatten.1 hy
  obtain ⟨u, hu, rfl⟩ := List.mem_map.1 hl
  obtain ⟨j, hj⟩ := List.getElem?_of_mem hu
  have hjl : j < cs.length := by rw [← h.len]; exact (List.getElem?_eq_some_iff.1 hj).1
  obtain ⟨⟨x1, c1, e1, _⟩, ⟨x2, c2, e2, _⟩⟩ := h.car j u _ hj (List.getElem?_eq_getElem hjl)
  simp at hyl
  rcases hyl with rfl | rfl
  · rw [e1]; rfl
  · rw [e2]; rfl
theorem CarsAt.setOwn {B : Nat} {W : World} {v v' : Value} {us : List (Value × Value)} {cs : List Cr} (h : CarsAt B W v us cs) {j : Nat} {u : Value × Value} {x : Cr} (hu : us[j]? = some u) (hx : cs[j]? = some x) {o : Value} {own' : List Int}
    (hrow : RowB B W v' 2 ((us.set j (u.1, o)).map fun u => [u.1, u.2])) (ho : RowB B W o 1 (own'.map inV)) : CarsAt B W v' (us.set j (u.1, o)) (cs.set j ⟨x.fleet, own'⟩) := by
  refine ⟨by simp [h.len], hrow, fun i y z hy hz => ?_⟩
  have hjl : j < us.length := (List.getElem?_eq_some_iff.1 hu).1
  by_cases hij : j = i
  · subst hij
    rw [List.getElem?_set_self hjl] at hy
    rw [List.getElem?_set_self (by rw [← h.len]; exact hjl)] at hz
    cases hy
    cases hz
    exact ⟨(h.car j u x hu hx).fleet, ho⟩
  · rw [List.getElem?_set_ne hij] at hy hz
    exact h.car i y z hy hz
def LpA (w6 : World) (gA gB n nu : Nat) (cs : List Cr) (v : Value) (ws : World) : Prop :=
  ∃ j : Nat, v = .int .i64 j ∧ j ≤ nu ∧ Below w6.heap.size w6 ws ∧ CntAt ws w6.heap.size gA n ((cs.take j).flatMap (·.own)) ∧ CntAt ws w6.heap.size gB n []
theorem LpA.mk_ {w6 : World} {gA gB n nu : Nat} {cs : List Cr} {v : Value} {ws : World} (j : Nat) (h : v = .int .i64 j) (h1 : j ≤ nu) (h2 : Below w6.heap.size w6 ws) (h3 : CntAt ws w6.heap.size gA n ((cs.take j).flatMap (·.own))) (h4 : CntAt ws w6.heap.size gB n []) : LpA w6 gA gB n nu cs v ws := ⟨j, h, h1, h2, h3, h4⟩
def LpB (w6 : World) (gA gB n : Nat) (pre own : List Int) (v : Value) (ws : World) : Prop :=
  ∃ m : Nat, v = .int .i64 m ∧ m ≤ own.length ∧ Below w6.heap.size w6 ws ∧ CntAt ws w6.heap.size gA n (pre ++ own.take m) ∧ CntAt ws w6.heap.size gB n []
theorem LpB.mk_ {w6 : World} {gA gB n : Nat} {pre own : List Int} {v : Value} {ws : World} (m : Nat) (h : v = .int .i64 m) (h1 : m ≤ own.length) (h2 : Below w6.heap.size w6 ws) (h3 : CntAt ws w6.heap.size gA n (pre ++ own.take m)) (h4 : CntAt ws w6.heap.size gB n []) : LpB w6 gA gB n pre own v ws := ⟨m, h, h1, h2, h3, h4⟩
def LpD (w6 : World) (gA gB n : Nat) (all : List Int) (ls : List Lt) (v : Value) (ws : World) : Prop :=
  ∃ m : Nat, v = .int .i64 m ∧ m ≤ ls.length ∧ Below w6.heap.size w6 ws ∧ CntAt ws w6.heap.size gA n all ∧ CntAt ws w6.heap.size gB n ((ls.take m).map (·.req))
theorem LpD.mk_ {w6 : World} {gA gB n : Nat} {all : List Int} {ls : List Lt} {v : Value} {ws : World} (m : Nat) (h : v = .int .i64 m) (h1 : m ≤ ls.length) (h2 : Below w6.heap.size w6 ws) (h3 : CntAt ws w6.heap.size gA n all) (h4 : CntAt ws w6.heap.size gB n ((ls.take m).map (·.req))) : LpD w6 gA gB n all ls v ws := ⟨m, h, h1, h2, h3, h4⟩
def LpE (w6 : World) (gA gB n : Nat) (all lots : List Int) (v : Value) (ws : World) : Prop :=
  ∃ r : Nat, v = .int .i64 r ∧ r ≤ n ∧ Below w6.heap.size w6 ws ∧ CntAt ws w6.heap.size gA n all ∧ CntAt ws w6.heap.size gB n lots
theorem LpE.mk_ {w6 : World} {gA gB n : Nat} {all lots : List Int} {v : Value} {ws : World} (r : Nat) (h : v = .int .i64 r) (h1 : r ≤ n) (h2 : Below w6.heap.size w6 ws) (h3 : CntAt ws w6.heap.size gA n all) (h4 : CntAt ws w6.heap.size gB n lots) : LpE w6 gA gB n all lots v ws := ⟨r, h, h1, h2, h3, h4⟩

set_option maxRecDepth 100000 in
set_option maxHeartbeats 4000000 in
theorem owns_any (w : World) (hg : Hd w) (sv : Value) (bs : List Int) (a b c k : Int) (hrow : RowB w.heap.size w sv 1 (bs.map byV)) (hbyte : ∀ x ∈ bs, 0 ≤ x ∧ x < 256) (ha : 0 ≤ a ∧ a < 256) (hb : 0 ≤ b ∧ b < 256) (hc : 0 ≤ c ∧ c < 256) (mo : Int) (hmo : 0 ≤ mo ∧ mo < 256) :
    Calls Tryd.prog 5 #[.agg #[sv, .int .u8 a, .int .u8 b, .int .u8 c, .int .i64 k], .int .u8 mo] w fun e w' => e = .returned (.bool true) ∧ Below w.heap.size w w' := by
  obtain ⟨xB, capB, rfl, _, _, _⟩ := id hrow
  simp only [List.length_map] at hrow ⊢
  obtain ⟨W1, hW1⟩ : ∃ W1, w.alloc (.cells #[.slice xB bs.length capB, .int .u8 a, .int .u8 b, .int .u8 c, .int .i64 k] 25) = W1 := ⟨_, rfl⟩
  have hb1 : Below w.heap.size w W1 := by rw [← hW1]; exact belowA _ _
  have hD1 : DraftAt W1 w.heap.size (.slice xB bs.length capB) bs a b c k := ⟨by rw [← hW1]; exact At.new _ _ _, hrow.keep hb1 (Nat.le_refl _), hbyte⟩
  have hg1 := hg.keep hb1 hg.pos
  have hgp := hg.pos
  obtain ⟨n, hn⟩ : ∃ n, n = w.heap.size := ⟨_, rfl⟩
  rw [← hn] at hD1 hb1 hgp
  have hnw : n ≤ w.heap.size ∧ w.heap.size ≤ n := by omega
  have hB' := Lib.hid hb1
  have hD' := Lib.hid hD1
  have hG' := Lib.hid hg1
  clear hrow hbyte hg hb1 hD1 hg1
  go_enter Tryd.func5, Tryd.ntmps5
  go_wp2_with fail
  rw [← hn]
  clear hn hW1
  refine (works_any _ hG'.out).mono ?_
  rintro e w2 ⟨rfl, hb2⟩
  have hD2 : DraftAt w2 n (.slice xB bs.length capB) bs a b c k := hD'.out.grown (Below.grow hb2) (fun x e => by cases e)
  have hB2 := hB'.out.trans (hb2.mono (Nat.le_trans hnw.1 hB'.out.size))
  have hG2 := hG'.out.keep hb2 (Nat.lt_of_lt_of_le hgp (Nat.le_trans hnw.1 hB'.out.size))
  have hpos : n < w2.heap.size := hD2.box.inside
  clear hb2 hB' hD' hG'
  go_wp2_with fail
  refine (draft_any _ n (.slice xB bs.length capB) bs a b c k hD2 ha hb hc).mono ?_
  rintro e w3 ⟨vR, vC, vL, vD, us, s, k', rfl, hS, ⟨_, _, _, hpl⟩, hdr, _, hgr⟩
  have hB3 := hB2.grown hgr (Nat.le_trans hnw.1 hB2.size) (fun x e => by cases e; exact Nat.le_refl _)
  have hG3 : Hd w3 := hG2.grownD hgr hgp
  obtain ⟨xR, cR, rfl, _, _, _⟩ := id hS.reqs
  obtain ⟨xC, cC, rfl, _, hcC2, _⟩ := id hS.cars.row
  obtain ⟨xL, cL, rfl, _, _, _⟩ := id hS.lots
  obtain ⟨xD, cD, rfl, _, _⟩ := id hS.draws
  simp only [List.length_map] at hS ⊢
  clear hD2 hB2 hgr hpos ha hb hc hG2
  obtain ⟨q, hq⟩ : ∃ q, q = w3.heap.size := ⟨_, rfl⟩
  go_upto_region 4 with fail
  rw [← hq]
  obtain ⟨w4, hw4⟩ : ∃ w4, w3.alloc (.cells #[.slice xR s.reqs.length cR, .slice xC us.length cC, .slice xL s.lots.length cL, .int .i64 s.cm, .int .i64 s.rv, .int .i64 s.sch, .slice xD s.draws cD] 33) = w4 := ⟨_, rfl⟩
  have hb4 : Below w3.heap.size w3 w4 := by rw [← hw4]; exact belowA _ _
  have hX4 : At w4 q 33 #[.slice xR s.reqs.length cR, .slice xC us.length cC, .slice xL s.lots.length cL, .int .i64 s.cm, .int .i64 s.rv, .int .i64 s.sch, .slice xD s.draws cD] := by rw [← hw4]; exact At.new_ _ _ _ hq
  rw [hw4]
  have hS4 := (hS.keep hb4 (Nat.le_refl _)).more hb4.size
  have hSq4 := hS.keep hb4 (Nat.le_refl _)
  have hnq : n ≤ w3.heap.size := Nat.le_trans hnw.1 hB3.size
  rw [← hq] at hSq4 hnq
  have hB4 := hB3.trans (hb4.mono (Nat.le_trans hnw.1 hB3.size))
  have hG4 := hG3.keep hb4 hG3.pos
  clear hw4 hq hb4 hS hB3 hG3
  have hfair := drawn_fair hdr

  have p0 := hX4.cell 0
  have p1 := hX4.cell 1
  have p2 := hX4.cell 2
  have p3 := hX4.cell 3
  have p4 := hX4.cell 4
  have p5 := hX4.cell 5
  have p6 := hX4.cell 6
  simp at p0 p1 p2 p3 p4 p5 p6
  go_wp2_with fail
  refine (Check_any s hfair _ _ _ _ us _ hS4).mono ?_
  rintro e w5 ⟨⟨u, rfl, hu⟩, hb5⟩
  rw [drawn_ok hdr] at hu
  have hu' : u = .nilIface := by
    rcases hu with ⟨_, h⟩ | ⟨h, _⟩
    · exact h
    · exact absurd rfl h
  subst hu'
  have hS5 := (hS4.keep hb5 (Nat.le_refl _)).more hb5.size
  have hX5 := hX4.keep hb5 hX4.inside
  have hSq5 := hSq4.keep hb5 (Nat.le_of_lt hX4.inside)
  have hB5 := hB4.trans (hb5.mono (Nat.le_trans hnw.1 hB4.size))
  have hG5 := hG4.keep hb5 hG4.pos
  clear hu p0 p1 p2 p3 p4 p5 p6 hS4 hX4 hB4 hG4 hb5 hSq4

  have p0 := hX5.cell 0
  have p1 := hX5.cell 1
  have p2 := hX5.cell 2
  have p3 := hX5.cell 3
  have p4 := hX5.cell 4
  have p5 := hX5.cell 5
  have p6 := hX5.cell 6
  simp at p0 p1 p2 p3 p4 p5 p6
  go_wp2_with fail
  refine (Owners_any s hfair _ _ _ _ us _ _ _ (by have := hdr.num; omega) _ hS5).mono ?_
  rintro e w6 ⟨⟨uo, rfl, huo⟩, hb6⟩
  have hS6 := (hS5.keep hb6 (Nat.le_refl _)).more hb6.size
  have hX6 := hX5.keep hb6 hX5.inside
  have hSq6 := Lib.hid (hSq5.keep hb6 (Nat.le_of_lt hX5.inside))
  have hB6 := hB5.trans (hb6.mono (Nat.le_trans hnw.1 hB5.size))
  have hG6 := hG5.keep hb6 hG5.pos
  clear p0 p1 p2 p3 p4 p5 p6 hS5 hX5 hB5 hG5 hb6 hSq5
  have hus := hS6.cars.len
  have hc8 := hdr.cnum
  have hl16 := hdr.lnum
  have hr64 := hdr.num
  obtain ⟨xo, co, rfl, ho1, ho2, _⟩ := id huo
  rw [show ((ownersL s).map inV).length = s.reqs.length by simp [ownersL]] at huo ho1 ⊢
  have hus8 : us.length ≤ s.cars.length ∧ s.cars.length ≤ us.length := by omega
  have hS' := Lib.hid hS6
  have hdr' := Lib.hid hdr
  have hfair' := Lib.hid hfair
  have huo' := Lib.hid huo
  have hpl' := Lib.hid hpl
  have hB' := Lib.hid hB6
  have hG' := Lib.hid hG6
  have hwn : n ≤ w6.heap.size := Nat.le_trans hnw.1 hB6.size
  clear hS6 hdr hfair huo hus hpl hB6 hG6
  obtain ⟨iI, hiI, hI0, hIs, hIb⟩ := info_parts info_inD
  obtain ⟨iC, hiC, hC0, hCs, hCb⟩ := info_parts info_crD
  have hqi := hX6.inside
  have hX' := Lib.hid hX6
  have p0 := hX6.cell 0
  simp at p0
  clear hX6
  go_upto_region 8 with fail
  clear p0
  refine Sched.wp_region_sched 5 (fun W W' => W.grownBy W' none) (V8 w6.heap.size s.reqs.length) Z8 (by kernel_rfl) (by kernel_rfl) (by kernel_rfl) (fun h1 h2 => h1.trans h2) (fun h1 h2 => V8.keep h1 h2) (gDrew _ _) (fun ys => Z8.start ys _) (Sched.StepsA.steps (by kernel_rfl) ?hS8) ?hQ8
  case hS8 =>
   simp only [List.take_succ_cons, List.take_zero]
   refine ⟨?_, ?_, ?_, ?_, ?_, trivial⟩

   · intro ys done W aa hE hn hF hD hZ hG hO
     replace hE : w6.grownBy W none := hE
     have o1 := hO 6 (by kernel_rfl)
     replace o1 : aa.tmps[6]? = some (.int .i64 (s.reqs.length : Int)) := o1
     go_wp2_with fail
     exact ⟨_, rfl, gRefl _ _, rfl, hZ.light (by decide) (by decide) (by decide)⟩
   · intro ys done W aa hE hn hF hD hZ hG hO
     replace hE : w6.grownBy W none := hE
     have v := hF 0 (by decide) (hD 0 (by kernel_rfl))
     replace v : ys 0 = .int .i64 (s.reqs.length : Int) := v
     have gg := hG 0 30 rfl (Nat.le_of_ble_eq_true rfl)
     rw [v] at gg
     refine wpList_make_full _ rfl _ _ 46 rfl w6.heap.size 3 iI (.int .i64 0) 1 Tryd.underlying46 hiI hI0 hIs .i64 .i64 _ _ s.reqs.length (show aa.tmps.getD 30 undef = .int .i64 (s.reqs.length : Int) by simp [gg]) (show aa.tmps.getD 30 undef = .int .i64 (s.reqs.length : Int) by simp [gg]) rfl rfl (by rw [hIb]; omega) (by unfold maxLen; omega) hE.size ?_
     intro w3 hown3 hgrow3
     rw [show (madeCells (Value.int .i64 0).cells (s.reqs.length * 1)).toList = zeros s.reqs.length by rw [Nat.mul_one]; exact toList_madeCells_one _ _] at hown3
     refine wpList_nil ?_
     refine ⟨_, rfl, hgrow3, ⟨_, rfl, hown3⟩, fun h1 h3 => ?_, fun h4 => ?_⟩
     · have hdo : done 3 = true := by simpa [Sched.mark] using h3
       obtain ⟨go, eo, ho⟩ : ∃ g : Nat, ys 3 = .slice (some ⟨g, 0, none⟩) s.reqs.length s.reqs.length ∧ W.ownsRow w6.heap.size 3 1 (.slice (some ⟨g, 0, none⟩) s.reqs.length s.reqs.length) s.reqs.length (zeros s.reqs.length) := hF 3 (by decide) hdo
       have hlt := (ho.lt go rfl).2
       simp [Sched.upd, eo]
       try omega
     · have hd4 : done 4 = true := by simpa [Sched.mark] using h4
       have := (hZ.2 hd4).1
       rw [hn] at this
       cases this
   · intro ys done W aa hE hn hF hD hZ hG hO
     replace hE : w6.grownBy W none := hE
     have o1 := hO 6 (by kernel_rfl)
     replace o1 : aa.tmps[6]? = some (.int .i64 (s.reqs.length : Int)) := o1
     go_wp2_with fail
     exact ⟨_, rfl, gRefl _ _, rfl, hZ.light (by decide) (by decide) (by decide)⟩
   · intro ys done W aa hE hn hF hD hZ hG hO
     replace hE : w6.grownBy W none := hE
     have v := hF 2 (by decide) (hD 2 (by kernel_rfl))
     replace v : ys 2 = .int .i64 (s.reqs.length : Int) := v
     have gg := hG 2 32 rfl (Nat.le_of_ble_eq_true rfl)
     rw [v] at gg
     refine wpList_make_full _ rfl _ _ 46 rfl w6.heap.size 3 iI (.int .i64 0) 1 Tryd.underlying46 hiI hI0 hIs .i64 .i64 _ _ s.reqs.length (show aa.tmps.getD 32 undef = .int .i64 (s.reqs.length : Int) by simp [gg]) (show aa.tmps.getD 32 undef = .int .i64 (s.reqs.length : Int) by simp [gg]) rfl rfl (by rw [hIb]; omega) (by unfold maxLen; omega) hE.size ?_
     intro w3 hown3 hgrow3
     rw [show (madeCells (Value.int .i64 0).cells (s.reqs.length * 1)).toList = zeros s.reqs.length by rw [Nat.mul_one]; exact toList_madeCells_one _ _] at hown3
     refine wpList_nil ?_
     refine ⟨_, rfl, hgrow3, ⟨_, rfl, hown3⟩, fun h1 h3 => ?_, fun h4 => ?_⟩
     · have hdo : done 1 = true := by simpa [Sched.mark] using h1
       obtain ⟨go, eo, ho⟩ : ∃ g : Nat, ys 1 = .slice (some ⟨g, 0, none⟩) s.reqs.length s.reqs.length ∧ W.ownsRow w6.heap.size 3 1 (.slice (some ⟨g, 0, none⟩) s.reqs.length s.reqs.length) s.reqs.length (zeros s.reqs.length) := hF 1 (by decide) hdo
       have hlt := (ho.lt go rfl).2
       simp [Sched.upd, eo]
       try omega
     · have hd4 : done 4 = true := by simpa [Sched.mark] using h4
       exact ⟨by simpa [Sched.mark] using (hZ.2 hd4).1, by simpa [Sched.upd] using (hZ.2 hd4).2⟩
   · intro ys done W aa hE hn hF hD hZ hG hO
     have hd1 := hD 1 (by kernel_rfl)
     obtain ⟨go, eo, ho⟩ : ∃ g : Nat, ys 1 = .slice (some ⟨g, 0, none⟩) s.reqs.length s.reqs.length ∧ W.ownsRow w6.heap.size 3 1 (.slice (some ⟨g, 0, none⟩) s.reqs.length s.reqs.length) s.reqs.length (zeros s.reqs.length) := hF 1 (by decide) hd1
     have gg := hG 1 31 rfl (Nat.le_of_ble_eq_true rfl)
     rw [eo] at gg
     go_wp2_with fail
     refine ⟨_, rfl, gRefl _ _, trivial, fun h1 h3 => ?_, fun _ => ?_⟩
     · have hd3 : done 3 = true := by simpa [Sched.mark] using h3
       simpa [Sched.upd] using hZ.1 hd1 hd3
     · exact ⟨by simpa [Sched.mark] using hd1, by simp [Sched.upd, eo]⟩
  case hQ8 =>
   intro ys W hE hF hZ
   obtain ⟨done, hdo, hZ⟩ := hZ
   replace hE : w6.grownBy W none := hE
   obtain ⟨gA, eA, hcA⟩ : ∃ g : Nat, ys 1 = .slice (some ⟨g, 0, none⟩) s.reqs.length s.reqs.length ∧ W.ownsRow w6.heap.size 3 1 (.slice (some ⟨g, 0, none⟩) s.reqs.length s.reqs.length) s.reqs.length (zeros s.reqs.length) := hF 1 (by decide)
   obtain ⟨gB, eB, hcB⟩ : ∃ g : Nat, ys 3 = .slice (some ⟨g, 0, none⟩) s.reqs.length s.reqs.length ∧ W.ownsRow w6.heap.size 3 1 (.slice (some ⟨g, 0, none⟩) s.reqs.length s.reqs.length) s.reqs.length (zeros s.reqs.length) := hF 3 (by decide)
   have hAB : gA ≠ gB := fun e => hZ.1 (hdo 1 (by decide)) (hdo 3 (by decide)) (by rw [eA, eB, e])
   have e4 : ys 4 = .slice (some ⟨gA, 0, none⟩) s.reqs.length s.reqs.length := (hZ.2 (hdo 4 (by decide))).2.trans eA
   have hcA0 := CntAt.start hcA
   have hcB0 := CntAt.start hcB
   have hb7 : Below w6.heap.size w6 W := (Below.refl _ _).grown hE (Nat.le_refl _) (fun x e => by cases e)
   simp only [List.take_succ_cons, List.take_zero, List.drop_succ_cons, List.drop_zero, Sched.fill, eA]
   rw [show ys (0 + 1 + 1 + 1) = .slice (some ⟨gB, 0, none⟩) s.reqs.length s.reqs.length from eB, show ys (0 + 1 + 1 + 1 + 1) = .slice (some ⟨gA, 0, none⟩) s.reqs.length s.reqs.length from e4]
   clear hF hZ hdo eA eB e4 hcA hcB hE
   go_simp
   go_wp2_with fail
   have hgA := hcA0.lt
   have hgB := hcB0.lt
   have hAll : (s.cars.flatMap (·.own)).length ≤ 64 := by rw [hdr'.out.cnt]; exact hr64
   go_loopw [10] (fun v ws => LpA w6 gA gB s.reqs.length us.length s.cars v ws) (fun v _ => us.length - (intOf v).toNat)
   case atStart => exact LpA.mk_ 0 rfl (Nat.zero_le _) hb7 (by simpa using hcA0) hcB0
   case round =>
     obtain ⟨j, rfl, hj, hbw, hcA, hcB⟩ := hrel
     clear hcA0 hcB0 hb7
     have p1 := (hX'.out.keep hbw hqi).cell 1
     simp at p1
     by_cases hlt : j < us.length
     · obtain ⟨x, hx⟩ : ∃ x, s.cars[j]? = some x := ⟨_, List.getElem?_eq_getElem (by omega)⟩
       obtain ⟨xF, capF, xO, capO, hu, hF1, hF2, hO1, hO2, hrow⟩ := hS'.out.cars.get hx
       have hcar := hS'.out.cars.car j _ x hu hx
       obtain ⟨gC, oC, hxC, hgC, hcC⟩ := RowB.row hS'.out.cars.row hrow
       subst hxC
       have how4 : x.own.length ≤ 64 := Nat.le_trans (own_le hx) hAll
       have hpre : ((s.cars.take j).flatMap (·.own)).length ≤ 64 := by
         have h1 := hAll
         rw [← List.take_append_drop j s.cars, List.flatMap_append, List.length_append] at h1
         omega
       have hin : ∀ y ∈ x.own, 0 ≤ y ∧ y < s.reqs.length := fun y hy => (hdr'.out.all y).1 (List.mem_flatMap.2 ⟨x, List.mem_of_getElem? hx, hy⟩)
       have hcC1 := hcC 1 _ rfl
       clear hcC hrow hu
       obtain ⟨pre, hpreE⟩ : ∃ pre, pre = (s.cars.take j).flatMap (·.own) := ⟨_, rfl⟩
       rw [← hpreE] at hcA hpre
       have hpre' := Lib.hid hpreE
       clear hpreE
       have hx' := Lib.hid hx
       have hin' := Lib.hid hin
       clear hx hin
       have c1 := (hbw.cell (p := ⟨gC, oC + j * 2 + 1, none⟩) hgC).trans hcC1
       go_wp2_with fail
       go_loopw [11] (fun v ws => LpB w6 gA gB s.reqs.length pre x.own v ws) (fun v _ => x.own.length - (intOf v).toNat)
       case atStart => exact LpB.mk_ 0 rfl (Nat.zero_le _) hbw (by simpa using hcA) hcB
       case round =>
         clear hcA hcB p1 c1 hbw
         obtain ⟨m, rfl, hm, hbs, hcA, hcB⟩ := hrel
         have p1 := (hX'.out.keep hbs hqi).cell 1
         simp at p1
         have c1 := (hbs.cell (p := ⟨gC, oC + j * 2 + 1, none⟩) hgC).trans hcC1
         by_cases hlt2 : m < x.own.length
         · obtain ⟨qv, hqv⟩ : ∃ qv, x.own[m]? = some qv := ⟨_, List.getElem?_eq_getElem hlt2⟩
           have hqr := hin'.out qv (List.mem_of_getElem? hqv)
           have hown := owner_drawn hdr'.out hx'.out (List.mem_of_getElem? hqv)
           obtain ⟨qn, hqn⟩ : ∃ qn : Nat, qv = qn := ⟨qv.toNat, by omega⟩
           subst hqn
           have hqn2 : qn < s.reqs.length := by omega
           obtain ⟨gO, oO, hxO, hgO, hcO⟩ := RowB.row hcar.own (j := m) (r := inV (qn : Int)) (by rw [List.getElem?_map, hqv]; rfl)
           subst hxO
           obtain ⟨go, oo, hxo, hgo, hco⟩ := RowB.row huo'.out (j := qn) (r := inV (j : Int)) (by rw [List.getElem?_map]; simp [ownersL, hqn2, hown])
           subst hxo
           have o0 := (hbs.cell (p := ⟨gO, oO + m * 1 + 0, none⟩) hgO).trans (hcO 0 _ rfl)
           simp at o0
           have hcell := hcA.cell hqn2
           have hbd := cnt_bound (pre ++ x.own.take m) (qn : Int)
           have hput := hcA.put hqn2
           have hlen : (pre ++ x.own.take m).length ≤ 128 := by simp; omega
           obtain ⟨L, hL⟩ : ∃ L, L = pre ++ x.own.take m := ⟨_, rfl⟩
           rw [← hL] at hcell hbd hput hlen
           obtain ⟨cv, hcv⟩ : ∃ cv, cv = cntI L (qn : Int) := ⟨_, rfl⟩
           rw [← hcv] at hcell hbd hput
           have hcvb : 0 ≤ cv ∧ cv ≤ 128 := by omega
           obtain ⟨hc1, hc2⟩ := hcell
           have hL' := Lib.hid hL
           have hLm := Lib.hid hqv
           clear hcv hL hbd hlen hcA hqv hown hqr
           go_upto_region 17 with fail
           obtain ⟨w9, hw9⟩ : ∃ w9, wr.setCell ⟨gA, qn, none⟩ (.int .i64 (cv + 1)) = w9 := ⟨_, rfl⟩
           have hg9 : wr.grownBy w9 (some gA) := by rw [← hw9]; exact put_grown _ _ _ _
           rw [hw9] at hput ⊢
           have hb9 := hbs.grown hg9 hbs.size (fun x e => by cases e; exact hgA.1)
           have hB9 := hcB.kept hg9 (by simp [hAB])
           have q0 := (hb9.cell (p := ⟨go, oo + qn * 1 + 0, none⟩) hgo).trans (hco 0 _ rfl)
           simp at q0
           rw [hL'.out, List.append_assoc, ← take_snoc (show x.own[m]? = some (qn : Int) from hLm.out)] at hput
           clear hc1 hc2 o0 p1 c1 hbs hcB hw9 hg9
           go_wp2_with fail
           go_roundw
           case rel => exact LpB.mk_ (m + 1) (by go_num) hlt2 hb9 hput hB9
           case measure => simp [intOf]; omega
         · have hme : m = x.own.length := by omega
           rw [List.take_of_length_le (by omega : x.own.length ≤ m)] at hcA
           go_wp2_with fail
           clear p1 c1
           rw [hpre'.out, show (s.cars.take j).flatMap (·.own) ++ x.own = (s.cars.take (j + 1)).flatMap (·.own) by rw [take_snoc hx'.out, List.flatMap_append]; simp] at hcA
           go_roundw
           case rel => exact LpA.mk_ (j + 1) (by go_num) hlt hbs hcA hcB
           case measure => simp [intOf]; omega
     · have hje : j = us.length := by omega
       rw [List.take_of_length_le (by omega : s.cars.length ≤ j)] at hcA
       go_wp2_with fail
       clear p1
       go_loopw [13] (fun v ws => LpD w6 gA gB s.reqs.length (s.cars.flatMap (·.own)) s.lots v ws) (fun v _ => s.lots.length - (intOf v).toNat)
       case atStart => exact LpD.mk_ 0 rfl (Nat.zero_le _) hbw hcA (by simpa using hcB)
       case round =>
         clear hcA hcB hbw hje hlt hj
         obtain ⟨m, rfl, hm, hbs, hcA, hcB⟩ := hrel
         have p2 := (hX'.out.keep hbs hqi).cell 2
         simp at p2
         by_cases hlt2 : m < s.lots.length
         · obtain ⟨lv, hlv⟩ : ∃ lv, s.lots[m]? = some lv := ⟨_, List.getElem?_eq_getElem hlt2⟩
           have hlr := hdr'.out.lot lv (List.mem_of_getElem? hlv)
           obtain ⟨rn, hrn⟩ : ∃ rn : Nat, lv.req = rn := ⟨lv.req.toNat, by omega⟩
           have hrn2 : rn < s.reqs.length := by omega
           obtain ⟨gL, oL, hxL, hgL, hcL⟩ := RowB.row hS'.out.lots (j := m) (r := ltV lv) (by rw [List.getElem?_map, hlv]; rfl)
           subst hxL
           have e0 := (hbs.cell (p := ⟨gL, oL + m * 2 + 0, none⟩) hgL).trans (hcL 0 _ rfl)
           simp only [hrn] at e0
           simp at e0
           have hcell := hcB.cell hrn2
           have hput := hcB.put hrn2
           have hbd := cnt_bound ((s.lots.take m).map (·.req)) (rn : Int)
           have hlen : ((s.lots.take m).map (·.req)).length ≤ 16 := by simp; omega
           have hsn : (s.lots.take m).map (·.req) ++ [(rn : Int)] = (s.lots.take (m + 1)).map (·.req) := by rw [take_snoc hlv, List.map_append, List.map_singleton, hrn]
           rw [hsn] at hput
           obtain ⟨cv, hcv⟩ : ∃ cv, cv = cntI ((s.lots.take m).map (·.req)) (rn : Int) := ⟨_, rfl⟩
           rw [← hcv] at hcell hbd hput
           have hcvb : 0 ≤ cv ∧ cv ≤ 16 := by omega
           obtain ⟨hc1, hc2⟩ := hcell
           clear hcv hbd hlen hcB hlv hlr hrn hsn hcL
           go_wp2_with fail
           have hg9 : wr.grownBy (wr.setCell ⟨gB, rn, none⟩ (.int .i64 (cv + 1))) (some gB) := put_grown _ _ _ _
           have hb9 := hbs.grown hg9 hbs.size (fun x e => by cases e; exact hgB.1)
           have hA9 := hcA.kept hg9 (by simp; exact fun e => hAB e.symm)
           clear hc1 hc2 e0 p2 hbs hcA hg9
           go_roundw
           case rel => exact LpD.mk_ (m + 1) (by go_num) hlt2 hb9 hA9 hput
           case measure => simp [intOf]; omega
         · have hme : m = s.lots.length := by omega
           rw [List.take_of_length_le (by omega : s.lots.length ≤ m)] at hcB
           go_wp2_with fail
           clear p2
           go_loopw [14] (fun v ws => LpE w6 gA gB s.reqs.length (s.cars.flatMap (·.own)) (s.lots.map (·.req)) v ws) (fun v _ => s.reqs.length - (intOf v).toNat)
           case atStart => exact LpE.mk_ 0 rfl (Nat.zero_le _) hbs hcA hcB
           case round =>
             clear hcA hcB hbs hme hlt2 hm
             obtain ⟨r, rfl, hr, hbs, hcA, hcB⟩ := hrel
             by_cases hlt3 : r < s.reqs.length
             · obtain ⟨hc1, hc2⟩ := hcA.cell hlt3
               obtain ⟨hc3, hc4⟩ := hcB.cell hlt3
               rw [cnt_nodup hdr'.out.once ((hdr'.out.all (r : Int)).2 ⟨by omega, by omega⟩)] at hc1
               have hle := cnt_le_one (r := (r : Int)) hdr'.out.apart
               have hge := (cnt_bound (s.lots.map (·.req)) (r : Int)).1
               obtain ⟨cv, hcv⟩ : ∃ cv, cv = cntI (s.lots.map (·.req)) (r : Int) := ⟨_, rfl⟩
               rw [← hcv] at hc3 hle hge
               clear hcv
               go_wp2_with fail
               go_roundw
               case rel => exact LpE.mk_ (r + 1) (by go_num) hlt3 hbs hcA hcB
               case measure => simp [intOf]; omega
             · have hB9 := (hB'.out.trans (hbs.mono hwn)).mono hnw.2
               by_cases h0 : s.reqs.length = 0
               · skip
                 have hrz : r = 0 := by omega
                 subst hrz
                 go_wp2
                 go_ret
                 exact ⟨rfl, hB9⟩
               · have hpos : 0 < s.reqs.length := by omega
                 have p1 := (hX'.out.keep hbs hqi).cell 1
                 simp at p1
                 obtain ⟨cN, hcN⟩ : ∃ cN : Nat, mo % (us.length : Int) = cN := ⟨(mo % (us.length : Int)).toNat, (Int.toNat_of_nonneg (Int.emod_nonneg _ (by omega))).symm⟩
                 obtain ⟨rN, hrN⟩ : ∃ rN : Nat, mo / 8 % (s.reqs.length : Int) = rN := ⟨(mo / 8 % (s.reqs.length : Int)).toNat, (Int.toNat_of_nonneg (Int.emod_nonneg _ (by omega))).symm⟩
                 have hcl : cN < us.length := by
                   have := Int.emod_lt_of_pos mo (show (0 : Int) < us.length by omega)
                   omega
                 have hrl : rN < s.reqs.length := by
                   have := Int.emod_lt_of_pos (mo / 8) (show (0 : Int) < s.reqs.length by omega)
                   omega
                 have hz1 : ((us.length : Int) == 0) = false := beq_eq_false_iff_ne.2 (by omega)
                 have hz2 : ((s.reqs.length : Int) == 0) = false := beq_eq_false_iff_ne.2 (by omega)
                 clear hcA hcB
                 go_upto_region 30 with fail
                 go_quiet (fail)
                 rw [hcN, hrN]
                 have hb10 : Below w6.heap.size w6 (wr.drewN nq) := hbs.grown (row := none) ⟨rfl, rfl, rfl, Nat.le_refl _, fun _ _ _ => rfl⟩ hbs.size (fun x e => by cases e)
                 obtain ⟨w10, hw10⟩ : ∃ w10, wr.drewN nq = w10 := ⟨_, rfl⟩
                 rw [hw10] at hb10 ⊢
                 clear hw10 hbs p1 hcN hrN hz1 hz2
                 obtain ⟨x, hx⟩ : ∃ x, s.cars[cN]? = some x := ⟨_, List.getElem?_eq_getElem (by omega)⟩
                 obtain ⟨xF, capF, xO, capO, hu, hF1, hF2, hO1, hO2, hrow⟩ := hS'.out.cars.get hx
                 obtain ⟨gC, oC, hxC, hgC, _⟩ := RowB.row hS'.out.cars.row hrow
                 subst hxC
                 have hcar := hS'.out.cars.car cN _ x hu hx
                 have hus1 := hS'.out.cars.one_
                 have hfl := RowB.flat hS'.out.cars.row (rowsLen (f := fun u : Value × Value => [u.1, u.2]) (m := 2) (fun _ => rfl) _) (by decide)
                 have hnews : ∀ (d : Nat) (v : Value), (flatC us)[d]? = some v → (w10.alloc (.cells #[] 53)).cell? ((⟨gC, oC, none⟩ : Addr).add d) = some v := fun d v hv => by
                   rw [addPlain]
                   exact ((hb10.trans ((belowA w10 _).mono hb10.size)).cell (p := ⟨gC, oC + d, none⟩) hgC).trans (hfl d v hv).2
                 have how4 : x.own.length ≤ 64 := Nat.le_trans (own_le hx) hAll
                 have hX10 := hX'.out.keep hb10 hqi
                 have p1 := (hX10.alloc (.cells #[] 53)).cell 1
                 simp at p1
                 have hs10 := hb10.size
                 have hqx := hX10.inside
                 have ho1 := World.ownsRow_made (base := w10.heap.size) (e := 53) (size := 2) w10 #[] 0 (Nat.le_refl _) (Nat.zero_le _) rfl
                 clear hrow hfl
                 go_upto_region 32 with (at_builtin; refine wpList_append_own _ rfl _ _ 29 rfl w10.heap.size 53 iC (.agg #[.slice none 0 0, .slice none 0 0]) 2 48 (by kernel_rfl) hiC hC0 hCs hCb rfl (by decide) _ _ _ rfl ho1 ⟨gC, oC, none⟩ us.length cC (flatC us) rfl (flat_len (f := fun u : Value × Value => [u.1, u.2]) (m := 2) (fun _ => rfl) us) hnews hus1 (by unfold maxLen; omega) (by omega) (by simp) ?_; intro v7 w11 hown7 hgrow7 hnil7; simp only [Nat.zero_add, List.nil_append] at hown7; obtain ⟨gl, capl, h7, hgl1, hgl2, _, _⟩ := rowSome hown7 (by omega); subst h7)
                 have hb11 : Below w6.heap.size w6 w11 := ((hb10.trans ((belowA w10 (.cells #[] 53)).mono hs10)).grown hgrow7 (by simp; omega) (fun b e => by cases e; exact hs10))
                 clear p1 hnews hus1 ho1 hgrow7 hnil7 hX10 hb10
                 have hs11 := hb11.size
                 have hX11 := hX'.out.keep hb11 hqi
                 have c1 := (hown7.alloc (.cells #[] 3)).cellAt (cN * 2 + 1) (by omega)
                 rw [show cN * 2 + 1 = 2 * cN + 1 by omega, (flatC_get hu).2, show 2 * cN + 1 = cN * 2 + 1 by omega] at c1
                 simp only [] at c1
                 have hplain : Plain (.slice xO x.own.length capO) := (hpl'.out _ (List.mem_of_getElem? hu)).2
                 have ho2 := World.ownsRow_made (base := w11.heap.size) (e := 3) (size := 1) w11 #[] 0 (Nat.le_refl _) (Nat.zero_le _) rfl
                 have hu' := Lib.hid hu
                 have hx' := Lib.hid hx
                 clear hu hx
                 rcases hplain with hn | ⟨ad, mm, cc, he⟩

                 · skip
                   simp only [Value.slice.injEq] at hn
                   obtain ⟨hn1, hn2, hn3⟩ := hn
                   subst hn1 hn3
                   have hxn : x.own = [] := List.eq_nil_of_length_eq_zero hn2
                   simp only [hn2] at c1
                   go_upto_region 33 with (first | (at_builtin; refine wpList_append_own _ rfl _ _ 46 rfl w11.heap.size 3 iI (.int .i64 0) 1 8 (by kernel_rfl) hiI hI0 hIs hIb rfl (by decide) _ _ _ rfl (hown8.alloc _) ⟨w12.heap.size, 0, none⟩ 1 1 [.int .i64 (rN : Int)] rfl rfl (World.news_of_block (cs := #[.int .i64 (rN : Int)]) (t := 3) (fr := (0, 0)) (heap_alloc_new w12 _)) (by simp [Value.oneCell']) (by unfold maxLen; omega) (by omega) (by simp; omega) ?_; intro v9 w13 hown9 hgrow9 hnil9; (try simp only [Nat.zero_add, List.nil_append] at hown9); obtain ⟨g9, cap9, h9, hg91, hg92, _, _⟩ := rowSome hown9 (by omega); subst h9; have hl13 := (hl12.alloc (.cells #[.int .i64 (rN : Int)] 3)).kept hgrow9 (rowApart (hl12.alloc _) (hown8.alloc (.cells #[.int .i64 (rN : Int)] 3)) (by decide)); have c2 := hl13.cellAt (cN * 2 + 1) (by omega); rw [show cN * 2 + 1 = 2 * cN + 1 by omega, (flatC_get hu'.out).2, show 2 * cN + 1 = cN * 2 + 1 by omega] at c2; have cf := hl13.frozenAt (cN * 2 + 1)) | (at_builtin; refine wpList_append_own_none rfl _ _ 46 rfl w11.heap.size 3 iI 1 Tryd.underlying46 hiI _ 0 [] rfl ho2 rfl ?_; obtain ⟨w12, hw12⟩ : ∃ w12, w12 = w11.alloc (.cells #[] 3) := ⟨_, rfl⟩; rw [← hw12] at ho2 ⊢; have hown8 := ho2; have hl12 := hown7.alloc (.cells #[] 3); rw [← hw12] at hl12; have hb12 : Below w6.heap.size w6 w12 := (by rw [hw12]; exact hb11.trans ((belowA w11 _).mono hs11)); have hs12 : w11.heap.size < w12.heap.size := (by rw [hw12]; simp); clear hw12))
                   obtain ⟨Wg, hWg⟩ : ∃ Wg, w13.setCell ⟨gl, cN * 2 + 1, none⟩ (.slice (some ⟨g9, 0, none⟩) 1 cap9) = Wg := ⟨_, rfl⟩
                   rw [hWg]
                   have hbl12 := hb12.size
                   have hb13 : Below w6.heap.size w6 w13 := ((hb12.trans ((belowA w12 (.cells #[.int .i64 (rN : Int)] 3)).mono hbl12)).grown hgrow9 (by simp; omega) (fun b e => by have := ((hown8.alloc (.cells #[.int .i64 (rN : Int)] 3)).lt _ e).1; omega))
                   have hbWg : Below w6.heap.size w6 Wg := by rw [← hWg]; exact hb13.grown (put_grown w13 gl (cN * 2 + 1) (.slice (some ⟨g9, 0, none⟩) 1 cap9)) hb13.size (fun b e => by cases e; omega)
                   have hlWg := (hl13.stored (cN * 2 + 1) (.slice (some ⟨g9, 0, none⟩) 1 cap9)).1
                   rw [show cN * 2 + 1 = 2 * cN + 1 by omega, flatC_set (.slice (some ⟨g9, 0, none⟩) 1 cap9) hu'.out, show 2 * cN + 1 = cN * 2 + 1 by omega, hWg] at hlWg
                   have hoWg := hown9.kept (put_grown w13 gl (cN * 2 + 1) (.slice (some ⟨g9, 0, none⟩) 1 cap9)) (rowApart hown9 hl13 (by decide))
                   rw [hWg] at hoWg
                   clear hWg hb13 hl13 hown9 hgrow9 hnil9 hown8 hl12 hb12 c1 c2 cf hown7 hX11 ho2
                   have hXg := hX'.out.keep hbWg hqi
                   have x1 := hXg.cell 1
                   simp at x1
                   have xf := hXg.free 1
                   go_upto_region 34 with fail
                   obtain ⟨Wf, hWf⟩ : ∃ Wf, Wg.setCell ⟨q, 1, none⟩ (.slice (some ⟨gl, 0, none⟩) us.length capl) = Wf := ⟨_, rfl⟩
                   have hP := put_grown Wg q 1 (.slice (some ⟨gl, 0, none⟩) us.length capl)
                   rw [hWf] at hP ⊢
                   have hXf := hXg.put 1 (.slice (some ⟨gl, 0, none⟩) us.length capl)
                   rw [hWf] at hXf
                   simp at hXf
                   have hlWf := hlWg.kept hP (rowNe hlWg (by omega))
                   have hoWf := hoWg.kept hP (rowNe hoWg (by omega))
                   have hbq : Below q w6 Wf := (hbWg.mono (Nat.le_of_lt hqi)).grown hP (Nat.le_trans (Nat.le_of_lt hqi) hbWg.size) (fun b e => by cases e; exact Nat.le_refl _)
                   have hSf := hSq6.out.keep hbq (Nat.le_refl _)
                   have hqf : q ≤ Wf.heap.size := Nat.le_trans (Nat.le_of_lt hqi) hbq.size
                   clear hWf hP hlWg hoWg hXg x1 xf hbWg
                   have hoF : Wf.ownsRow w11.heap.size 3 1 (.slice (some ⟨g9, 0, none⟩) 1 cap9) 1 (flatI (x.own ++ [(rN : Int)])) := by rw [hxn]; exact hoWf
                   have hcars := (hSf.cars.more hqf).setOwn hu'.out hx'.out (own' := x.own ++ [(rN : Int)]) (v' := (.slice (some ⟨gl, 0, none⟩) us.length capl)) (o := (.slice (some ⟨g9, 0, none⟩) 1 cap9)) (RowB.of_owns hlWf (by simp) (rowsLen (f := fun u : Value × Value => [u.1, u.2]) (m := 2) (fun _ => rfl) _)) (RowB.of_owns hoF (by simp [hxn]) (rowsLen (f := inV) (m := 1) (fun _ => rfl) _))
                   obtain ⟨us', hus'⟩ : ∃ us' : List (Value × Value), SceneAt Wf.heap.size Wf (.slice xR s.reqs.length cR) (.slice (some ⟨gl, 0, none⟩) us.length capl) (.slice xL s.lots.length cL) (.slice xD s.draws cD) us' (moreS s cN x (rN : Int)) := ⟨_, ⟨hSf.reqs.more hqf, hcars, hSf.lots.more hqf, hSf.draws⟩⟩
                   have hrr : 0 ≤ (rN : Int) ∧ (rN : Int) < s.reqs.length := ⟨by omega, by omega⟩
                   obtain ⟨iF, hfv, hi1, hi2⟩ := extra_fault hdr'.out hx'.out hrr
                   have hfM := more_fair hdr'.out hx'.out hrr
                   have hi3 : iF < us.length := by omega
                   have t0 := hXf.cell 0
                   have t1 := hXf.cell 1
                   have t2 := hXf.cell 2
                   have t3 := hXf.cell 3
                   have t4 := hXf.cell 4
                   have t5 := hXf.cell 5
                   have t6 := hXf.cell 6
                   simp at t0 t1 t2 t3 t4 t5 t6
                   have hq0 : 0 < q := by omega
                   have hGf := hG'.out.keep hbq hq0
                   have hBf := hB'.out.trans (hbq.mono hnq)
                   have hBs := hBf.size
                   clear hcars hlWf hoWf hoF hSf hXf hbq
                   go_wp2_with fail
                   refine (Check_any (moreS s cN x (rN : Int)) hfM _ _ _ _ us' _ hus').mono ?_
                   rintro e V0 ⟨⟨u, rfl, hu0⟩, hc0⟩
                   rw [hfv] at hu0
                   have hG0 := hGf.keep hc0 hGf.pos
                   have hBf0 := hBf.trans (hc0.mono (Nat.le_trans hnq hqf))
                   have hs0 := hc0.size
                   clear t0 t1 t2 t3 t4 t5 t6
                   go_wp2_with fail
                   refine (Told_any u (13, 2, iF) _ hG0 hu0 (by intro h; simp at h)).mono ?_
                   rintro e V1 ⟨rfl, hc1⟩
                   have hfin : ∀ o, Below w.heap.size w (V1.alloc o) := fun o => ((hBf0.trans (hc1.mono (Nat.le_trans hnq (Nat.le_trans hqf hs0)))).mono hnw.2).alloc (by have := hc1.size; omega) o
                   go_wp2
                   go_ret
                   exact ⟨rfl, hfin _⟩
                 · skip
                   simp only [Value.slice.injEq] at he
                   obtain ⟨he1, he2, he3⟩ := he
                   subst he1
                   clear he2 he3
                   have hflA := RowB.flatA hcar.own (rowsLen (f := inV) (m := 1) (fun _ => rfl) _) (by decide)
                   have hnews2 : ∀ (d : Nat) (v : Value), (flatI x.own)[d]? = some v → (w11.alloc (.cells #[] 3)).cell? (ad.add d) = some v := fun d v hv => by
                     have h1 := hflA d v hv
                     exact ((hb11.trans ((belowA w11 _).mono hs11)).cell (p := ad.add d) (by rw [addBlock]; exact h1.1)).trans h1.2
                   have hone2 : ∀ y ∈ flatI x.own, y.oneCell' = true := by
                     intro y hy
                     obtain ⟨l, hl, hyl⟩ := List.mem_flatten.1 hy
                     obtain ⟨z, _, rfl⟩ := List.mem_map.1 hl
                     simp [inV] at hyl
                     rw [hyl]; rfl
                   go_upto_region 33 with (first | (at_builtin; refine wpList_append_own _ rfl _ _ 46 rfl w11.heap.size 3 iI (.int .i64 0) 1 8 (by kernel_rfl) hiI hI0 hIs hIb rfl (by decide) _ _ _ rfl (hown8.alloc _) ⟨w12.heap.size, 0, none⟩ 1 1 [.int .i64 (rN : Int)] rfl rfl (World.news_of_block (cs := #[.int .i64 (rN : Int)]) (t := 3) (fr := (0, 0)) (heap_alloc_new w12 _)) (by simp [Value.oneCell']) (by unfold maxLen; omega) (by omega) (by simp; omega) ?_; intro v9 w13 hown9 hgrow9 hnil9; (try simp only [Nat.zero_add, List.nil_append] at hown9); obtain ⟨g9, cap9, h9, hg91, hg92, _, _⟩ := rowSome hown9 (by omega); subst h9; have hl13 := (hl12.alloc (.cells #[.int .i64 (rN : Int)] 3)).kept hgrow9 (rowApart (hl12.alloc _) (hown8.alloc (.cells #[.int .i64 (rN : Int)] 3)) (by decide)); have c2 := hl13.cellAt (cN * 2 + 1) (by omega); rw [show cN * 2 + 1 = 2 * cN + 1 by omega, (flatC_get hu'.out).2, show 2 * cN + 1 = cN * 2 + 1 by omega] at c2; have cf := hl13.frozenAt (cN * 2 + 1)) | (at_builtin; refine wpList_append_own _ rfl _ _ 46 rfl w11.heap.size 3 iI (.int .i64 0) 1 8 (by kernel_rfl) hiI hI0 hIs hIb rfl (by decide) _ _ _ rfl ho2 ad x.own.length capO (flatI x.own) rfl (flat_len (f := inV) (m := 1) (fun _ => rfl) x.own) hnews2 hone2 (by unfold maxLen; omega) (by omega) (by simp) ?_; intro v8 w12 hown8 hgrow8 hnil8; have hl12 := (hown7.alloc (.cells #[] 3)).kept hgrow8 (rowApart (hown7.alloc _) ho2 (by decide)); have hb12 : Below w6.heap.size w6 w12 := ((hb11.trans ((belowA w11 _).mono hs11)).grown hgrow8 (by simp; omega) (fun b e => by cases e; exact hs11)); have hs12 : w11.heap.size < w12.heap.size := (by have := hgrow8.size; simp at this; omega); simp only [Nat.zero_add, List.nil_append] at hown8))
                   obtain ⟨Wg, hWg⟩ : ∃ Wg, w13.setCell ⟨gl, cN * 2 + 1, none⟩ (.slice (some ⟨g9, 0, none⟩) (x.own.length + 1) cap9) = Wg := ⟨_, rfl⟩
                   rw [hWg]
                   have hbl12 := hb12.size
                   have hb13 : Below w6.heap.size w6 w13 := ((hb12.trans ((belowA w12 (.cells #[.int .i64 (rN : Int)] 3)).mono hbl12)).grown hgrow9 (by simp; omega) (fun b e => by have := ((hown8.alloc (.cells #[.int .i64 (rN : Int)] 3)).lt _ e).1; omega))
                   have hbWg : Below w6.heap.size w6 Wg := by rw [← hWg]; exact hb13.grown (put_grown w13 gl (cN * 2 + 1) (.slice (some ⟨g9, 0, none⟩) (x.own.length + 1) cap9)) hb13.size (fun b e => by cases e; omega)
                   have hlWg := (hl13.stored (cN * 2 + 1) (.slice (some ⟨g9, 0, none⟩) (x.own.length + 1) cap9)).1
                   rw [show cN * 2 + 1 = 2 * cN + 1 by omega, flatC_set (.slice (some ⟨g9, 0, none⟩) (x.own.length + 1) cap9) hu'.out, show 2 * cN + 1 = cN * 2 + 1 by omega, hWg] at hlWg
                   have hoWg := hown9.kept (put_grown w13 gl (cN * 2 + 1) (.slice (some ⟨g9, 0, none⟩) (x.own.length + 1) cap9)) (rowApart hown9 hl13 (by decide))
                   rw [hWg] at hoWg
                   clear hWg hb13 hl13 hown9 hgrow9 hnil9 hown8 hl12 hb12 c1 c2 cf hown7 hX11 ho2
                   have hXg := hX'.out.keep hbWg hqi
                   have x1 := hXg.cell 1
                   simp at x1
                   have xf := hXg.free 1
                   go_upto_region 34 with fail
                   obtain ⟨Wf, hWf⟩ : ∃ Wf, Wg.setCell ⟨q, 1, none⟩ (.slice (some ⟨gl, 0, none⟩) us.length capl) = Wf := ⟨_, rfl⟩
                   have hP := put_grown Wg q 1 (.slice (some ⟨gl, 0, none⟩) us.length capl)
                   rw [hWf] at hP ⊢
                   have hXf := hXg.put 1 (.slice (some ⟨gl, 0, none⟩) us.length capl)
                   rw [hWf] at hXf
                   simp at hXf
                   have hlWf := hlWg.kept hP (rowNe hlWg (by omega))
                   have hoWf := hoWg.kept hP (rowNe hoWg (by omega))
                   have hbq : Below q w6 Wf := (hbWg.mono (Nat.le_of_lt hqi)).grown hP (Nat.le_trans (Nat.le_of_lt hqi) hbWg.size) (fun b e => by cases e; exact Nat.le_refl _)
                   have hSf := hSq6.out.keep hbq (Nat.le_refl _)
                   have hqf : q ≤ Wf.heap.size := Nat.le_trans (Nat.le_of_lt hqi) hbq.size
                   clear hWf hP hlWg hoWg hXg x1 xf hbWg
                   have hoF : Wf.ownsRow w11.heap.size 3 1 (.slice (some ⟨g9, 0, none⟩) (x.own.length + 1) cap9) (x.own.length + 1) (flatI (x.own ++ [(rN : Int)])) := by rw [flatI_snoc]; exact hoWf
                   have hcars := (hSf.cars.more hqf).setOwn hu'.out hx'.out (own' := x.own ++ [(rN : Int)]) (v' := (.slice (some ⟨gl, 0, none⟩) us.length capl)) (o := (.slice (some ⟨g9, 0, none⟩) (x.own.length + 1) cap9)) (RowB.of_owns hlWf (by simp) (rowsLen (f := fun u : Value × Value => [u.1, u.2]) (m := 2) (fun _ => rfl) _)) (RowB.of_owns hoF (by simp) (rowsLen (f := inV) (m := 1) (fun _ => rfl) _))
                   obtain ⟨us', hus'⟩ : ∃ us' : List (Value × Value), SceneAt Wf.heap.size Wf (.slice xR s.reqs.length cR) (.slice (some ⟨gl, 0, none⟩) us.length capl) (.slice xL s.lots.length cL) (.slice xD s.draws cD) us' (moreS s cN x (rN : Int)) := ⟨_, ⟨hSf.reqs.more hqf, hcars, hSf.lots.more hqf, hSf.draws⟩⟩
                   have hrr : 0 ≤ (rN : Int) ∧ (rN : Int) < s.reqs.length := ⟨by omega, by omega⟩
                   obtain ⟨iF, hfv, hi1, hi2⟩ := extra_fault hdr'.out hx'.out hrr
                   have hfM := more_fair hdr'.out hx'.out hrr
                   have hi3 : iF < us.length := by omega
                   have t0 := hXf.cell 0
                   have t1 := hXf.cell 1
                   have t2 := hXf.cell 2
                   have t3 := hXf.cell 3
                   have t4 := hXf.cell 4
                   have t5 := hXf.cell 5
                   have t6 := hXf.cell 6
                   simp at t0 t1 t2 t3 t4 t5 t6
                   have hq0 : 0 < q := by omega
                   have hGf := hG'.out.keep hbq hq0
                   have hBf := hB'.out.trans (hbq.mono hnq)
                   have hBs := hBf.size
                   clear hcars hlWf hoWf hoF hSf hXf hbq
                   go_wp2_with fail
                   refine (Check_any (moreS s cN x (rN : Int)) hfM _ _ _ _ us' _ hus').mono ?_
                   rintro e V0 ⟨⟨u, rfl, hu0⟩, hc0⟩
                   rw [hfv] at hu0
                   have hG0 := hGf.keep hc0 hGf.pos
                   have hBf0 := hBf.trans (hc0.mono (Nat.le_trans hnq hqf))
                   have hs0 := hc0.size
                   clear t0 t1 t2 t3 t4 t5 t6
                   go_wp2_with fail
                   refine (Told_any u (13, 2, iF) _ hG0 hu0 (by intro h; simp at h)).mono ?_
                   rintro e V1 ⟨rfl, hc1⟩
                   have hfin : ∀ o, Below w.heap.size w (V1.alloc o) := fun o => ((hBf0.trans (hc1.mono (Nat.le_trans hnq (Nat.le_trans hqf hs0)))).mono hnw.2).alloc (by have := hc1.size; omega) o
                   go_wp2
                   go_ret
                   exact ⟨rfl, hfin _⟩
end Go.Proofs.YtlkijbakfoabaaaDoor.Scene

/-
  What a scene that is being drawn lies in: rows of the call's own, the draft, the variables.
-/
import Derived.Test.YtlkijbakfoabaaaDoorDraftPlace
import Derived.Test.YtlkijbakfoabaaaDoorDraftMath
import Derived.Test.YtlkijbakfoabaaaDoorSceneKnownMath
import Derived.Maps.AppendAt
namespace Go.Proofs.YtlkijbakfoabaaaDoor.Scene
open Go.RowKit Go.Proofs.YtlkijbakfoabaaaDoor.Mem
set_option linter.unusedVariables false

/-- How far the draft has read beyond where it stood, by the calls that have come up. -/
def sumD : List (Nat × Int) → (Nat → Bool) → Int
  | [], _ => 0
  | p :: ps, done => (if done p.1 = true then p.2 else 0) + sumD ps done
theorem sumD_start : ∀ (ps : List (Nat × Int)), sumD ps (fun _ => false) = 0
  | [] => rfl
  | p :: ps => by simp [sumD, sumD_start ps]
theorem sumD_light {done : Nat → Bool} {j : Nat} : ∀ {ps : List (Nat × Int)}, (ps.all fun p => p.1 != j) = true → sumD ps (Sched.mark done j) = sumD ps done
  | [], _ => rfl
  | p :: ps, h => by
    simp only [List.all_cons, Bool.and_eq_true, bne_iff_ne] at h
    simp only [sumD, sumD_light h.2, Sched.mark, if_neg h.1]
theorem sumD_hit {done : Nat → Bool} {j : Nat} {n : Int} (hn : done j = false) : ∀ {ps : List (Nat × Int)}, (ps.map (·.1)).Nodup → (j, n) ∈ ps → sumD ps (Sched.mark done j) = sumD ps done + n
  | [], _, h => by cases h
  | p :: ps, hd, h => by
    rw [List.map_cons, List.nodup_cons] at hd
    rcases List.mem_cons.1 h with h1 | h1
    · subst h1
      have : (ps.all fun p => p.1 != j) = true := by
        rw [List.all_eq_true]
        intro x hx
        rw [bne_iff_ne]
        exact fun e => hd.1 (List.mem_map.2 ⟨x, hx, e⟩)
      simp only [sumD, sumD_light this, Sched.mark, if_true, hn]
      simp
      omega
    · have hne : p.1 ≠ j := fun e => hd.1 (List.mem_map.2 ⟨(j, n), h1, e.symm⟩)
      simp only [sumD, sumD_hit hn hd.2 h1, Sched.mark, if_neg hne]
      omega
theorem sumD_bound {done : Nat → Bool} : ∀ {ps : List (Nat × Int)}, (ps.all fun p => decide (0 ≤ p.2) && decide (p.2 ≤ 2)) = true → 0 ≤ sumD ps done ∧ sumD ps done ≤ 2 * (ps.length : Int)
  | [], _ => by simp [sumD]
  | p :: ps, h => by
    simp only [List.all_cons, Bool.and_eq_true, decide_eq_true_eq] at h
    have ih := sumD_bound (done := done) (ps := ps) (by simpa using h.2)
    simp only [sumD, List.length_cons]
    split <;> omega

/-- The draft, in a region of which some calls have come up. -/
def ZD (g : Nat) (sv : Value) (bs : List Int) (a b c K : Int) (ps : List (Nat × Int)) (done : Nat → Bool) (ys : Nat → Value) (W : World) : Prop := DraftAt W g sv bs a b c (K + sumD ps done)
section
variable {g : Nat} {sv : Value} {bs : List Int} {a b c K : Int} {ps : List (Nat × Int)} {done : Nat → Bool} {ys ys' : Nat → Value} {W V : World}
theorem ZD.start (h : DraftAt W g sv bs a b c K) (ys : Nat → Value) : ZD g sv bs a b c K ps (fun _ => false) ys W := by
  unfold ZD
  rw [sumD_start, Int.add_zero]
  exact h
theorem ZD.draft (h : ZD g sv bs a b c K ps done ys W) : DraftAt W g sv bs a b c (K + sumD ps done) := h
theorem ZD.light (h : ZD g sv bs a b c K ps done ys W) {j : Nat} (hj : (ps.all fun p => p.1 != j) = true) : ZD g sv bs a b c K ps (Sched.mark done j) ys' W := by
  unfold ZD
  rw [sumD_light hj]
  exact h
theorem ZD.alloc (h : ZD g sv bs a b c K ps done ys W) {j : Nat} (hj : (ps.all fun p => p.1 != j) = true) (o : Obj) : ZD g sv bs a b c K ps (Sched.mark done j) ys' (W.alloc o) := by
  unfold ZD
  rw [sumD_light hj]
  exact DraftAt.alloc h o
theorem ZD.hit {j : Nat} {n : Int} (hn : done j = false) (h : DraftAt V g sv bs a b c (K + sumD ps done + n)) (hd : (ps.map (·.1)).Nodup) (hm : (j, n) ∈ ps) : ZD g sv bs a b c K ps (Sched.mark done j) ys' V := by
  unfold ZD
  rw [sumD_hit hn hd hm, ← Int.add_assoc]
  exact h
end

theorem gRefl (W : World) (row : Option Nat) : W.grownBy W row := ⟨rfl, rfl, rfl, Nat.le_refl _, fun _ _ _ => rfl⟩
theorem gAt {w v : World} {g : Nat} {t : TypeId} {cs : Array Value} {row : Option Nat} (h : At w g t cs) (hg : w.grownBy v row) (hne : some g ≠ row) : At v g t cs := (hg.block g h.inside hne).trans h
theorem rowNe {w : World} {base : Nat} {e : TypeId} {size : Nat} {v : Value} {n : Nat} {xs : List Value} (h : w.ownsRow base e size v n xs) {g : Nat} (hg : g < base) : v.ownBlock = none ∨ v.ownBlock ≠ some g := by
  cases hv : v.ownBlock with
  | none => exact Or.inl rfl
  | some b => exact Or.inr (fun e => by cases e; have := (h.lt _ hv).1; omega)
theorem rowOpen {W : World} {base : Nat} {e : TypeId} {size : Nat} {v : Value} {k : Nat} {xs : List Value} (h : W.ownsRow base e size v (k + 1) xs) : ∃ g cap, v = .slice (some ⟨g, 0, none⟩) (k + 1) cap ∧ base ≤ g ∧ g < W.heap.size ∧ k + 1 ≤ cap ∧ cap ≤ maxLen := by
  rcases h.2 with ⟨_, h0⟩ | ⟨g, cap, cur, h1, hb, hg, h2, h3, _⟩
  · omega
  · exact ⟨g, cap, h1, hb, (Array.getElem?_eq_some_iff.1 hg).1, h2, h3⟩
theorem rowSlice {W : World} {base : Nat} {e : TypeId} {size : Nat} {v : Value} {n : Nat} {xs : List Value} (h : W.ownsRow base e size v n xs) : ∃ x cap, v = .slice x n cap ∧ n ≤ cap ∧ cap ≤ maxLen := by
  rcases h.2 with ⟨h1, h0⟩ | ⟨g, cap, cur, h1, hb, hg, h2, h3, _⟩
  · exact ⟨none, 0, by rw [h1, h0], by omega, Nat.zero_le _⟩
  · exact ⟨_, cap, h1, h2, h3⟩
theorem rowAt {W : World} {base : Nat} {e : TypeId} {size : Nat} {v : Value} {n : Nat} {xs : List Value} (h : W.ownsRow base e size v n xs) {k : Nat} (hk : v.ownBlock = some k) : ∃ cs, At W k e cs := by
  rcases h.2 with ⟨h1, h0⟩ | ⟨g, cap, cur, h1, hb, hg, h2, h3, _⟩
  · rw [h1] at hk; cases hk
  · rw [h1] at hk; cases hk; exact ⟨_, hg⟩
/-- Rows of other types are apart. -/
theorem rowApart {W : World} {b b' : Nat} {e e' : TypeId} {s s' : Nat} {v v' : Value} {n n' : Nat} {xs xs' : List Value} (h : W.ownsRow b e s v n xs) (h' : W.ownsRow b' e' s' v' n' xs') (ht : e ≠ e') : v.ownBlock = none ∨ v.ownBlock ≠ v'.ownBlock := by
  cases hv : v.ownBlock with
  | none => exact Or.inl rfl
  | some k =>
    refine Or.inr (fun he => ?_)
    obtain ⟨cs, h1⟩ := rowAt h hv
    obtain ⟨cs', h2⟩ := rowAt h' he.symm
    exact At.apart h1 h2 ht rfl
theorem rowApartAt {W : World} {b : Nat} {e e' : TypeId} {s : Nat} {v : Value} {n g : Nat} {xs : List Value} {cs : Array Value} (h : W.ownsRow b e s v n xs) (h' : At W g e' cs) (ht : e ≠ e') : v.ownBlock = none ∨ v.ownBlock ≠ some g := by
  cases hv : v.ownBlock with
  | none => exact Or.inl rfl
  | some k =>
    refine Or.inr (fun he => ?_)
    obtain ⟨cs1, h1⟩ := rowAt h hv
    cases he
    exact At.apart h1 h' ht rfl
theorem rowIn {W : World} {b : Nat} {e : TypeId} {s : Nat} {v : Value} {n g : Nat} {xs : List Value} (h : W.ownsRow b e s v n xs) (hg : W.heap.size ≤ g) : v.ownBlock = none ∨ v.ownBlock ≠ some g := by
  cases hv : v.ownBlock with
  | none => exact Or.inl rfl
  | some k => exact Or.inr (fun he => by cases he; have := (h.lt _ hv).2; omega)
theorem rowBase {W : World} {b b' : Nat} {e : TypeId} {s : Nat} {v : Value} {n : Nat} {xs : List Value} (h : W.ownsRow b e s v n xs) (hb : b' ≤ b) : W.ownsRow b' e s v n xs := by
  refine ⟨h.1, ?_⟩
  rcases h.2 with h1 | ⟨g, cap, cur, h1, hb1, r⟩
  · exact Or.inl h1
  · exact Or.inr ⟨g, cap, cur, h1, by omega, r⟩

theorem DraftAt.grown {W V : World} {g : Nat} {sv : Value} {bs : List Int} {a b c k : Int} (h : DraftAt W g sv bs a b c k) {row : Option Nat} (hg : W.grownBy V row) (hr : ∀ x, row = some x → g < x) : DraftAt V g sv bs a b c k :=
  ⟨gAt h.box hg (fun e => by have := hr g e.symm; omega), h.row.keep ((Below.refl g W).grown hg (Nat.le_of_lt h.box.inside) (fun x e => Nat.le_of_lt (hr x e))) (Nat.le_refl _), h.byte⟩

def zScene : Array Value := #[.slice none 0 0, .slice none 0 0, .slice none 0 0, .int .i64 0, .int .i64 0, .int .i64 0, .slice none 0 0]
/-- What lies behind everything: the draft, the result's variable, the old blocks. -/
structure Base (w : World) (g : Nat) (sv : Value) (bs : List Int) (a b c : Int) (W : World) (k : Int) : Prop where
  dr : DraftAt W g sv bs a b c k
  res : At W w.heap.size 33 zScene
  gr : w.grownBy W (some g)
  gn : g < w.heap.size
section
variable {w : World} {g : Nat} {sv : Value} {bs : List Int} {a b c k k' : Int} {W V : World}
theorem Base.grown (h : Base w g sv bs a b c W k) {row : Option Nat} (hg : W.grownBy V row) (hr : ∀ x, row = some x → w.heap.size < x) : Base w g sv bs a b c V k :=
  ⟨h.dr.grown hg (fun x e => by have := hr x e; have := h.gn; omega), gAt h.res hg (fun e => by have := hr _ e.symm; omega), own_grown h.gr hg (fun x e => Nat.le_of_lt (hr x e)), h.gn⟩
theorem Base.turn (h : Base w g sv bs a b c W k) (hg : W.grownBy V (some g)) (hd : DraftAt V g sv bs a b c k') : Base w g sv bs a b c V k' :=
  ⟨hd, gAt h.res hg (fun e => by have := h.gn; cases e; omega), h.gr.trans hg, h.gn⟩
theorem Base.in (h : Base w g sv bs a b c W k) : w.heap.size < W.heap.size := h.res.inside
end

def flatR (qs : List Rq) : List Value := (qs.map rqV).flatten
def flatV (hs : List Vh) : List Value := (hs.map vhV).flatten
def flatL (ls : List Lt) : List Value := (ls.map ltV).flatten
def flatI (xs : List Int) : List Value := (xs.map inV).flatten
def flatC (us : List (Value × Value)) : List Value := (us.map fun u => [u.1, u.2]).flatten
theorem flatR_snoc (qs : List Rq) (q : Rq) : flatR (qs ++ [q]) = flatR qs ++ rqV q := by simp [flatR]
theorem flatV_snoc (qs : List Vh) (q : Vh) : flatV (qs ++ [q]) = flatV qs ++ vhV q := by simp [flatV]
theorem flatL_snoc (qs : List Lt) (q : Lt) : flatL (qs ++ [q]) = flatL qs ++ ltV q := by simp [flatL]
theorem flatI_snoc (qs : List Int) (q : Int) : flatI (qs ++ [q]) = flatI qs ++ inV q := by simp [flatI]
theorem flatC_snoc (qs : List (Value × Value)) (q : Value × Value) : flatC (qs ++ [q]) = flatC qs ++ [q.1, q.2] := by simp [flatC]
theorem flatC_get : ∀ {us : List (Value × Value)} {j : Nat} {u : Value × Value}, us[j]? = some u → (flatC us)[2 * j]? = some u.1 ∧ (flatC us)[2 * j + 1]? = some u.2
  | [], _, _, h => by simp at h
  | x :: us, 0, u, h => by
    have e : x = u := by simpa using h
    subst e
    simp [flatC]
  | x :: us, j + 1, u, h => by
    have h' : us[j]? = some u := by simpa using h
    have ih := flatC_get h'
    have e : flatC (x :: us) = x.1 :: x.2 :: flatC us := by simp [flatC]
    rw [e, show 2 * (j + 1) = 2 * j + 1 + 1 by omega]
    simp only [List.getElem?_cons_succ]
    exact ih
theorem flatC_set : ∀ {us : List (Value × Value)} {j : Nat} {u : Value × Value} (v : Value), us[j]? = some u → (flatC us).set (2 * j + 1) v = flatC (us.set j (u.1, v))
  | [], _, _, _, h => by simp at h
  | x :: us, 0, u, v, h => by
    have e : x = u := by simpa using h
    subst e
    simp [flatC]
  | x :: us, j + 1, u, v, h => by
    have h' : us[j]? = some u := by simpa using h
    have ih := flatC_set v h'
    have e : ∀ x' us', flatC (x' :: us') = x'.1 :: x'.2 :: flatC us' := by intros; simp [flatC]
    rw [List.set_cons_succ, e, e, show 2 * (j + 1) + 1 = 2 * j + 1 + 1 + 1 by omega]
    simp only [List.set_cons_succ, ih]
theorem flat_len {α : Type} {f : α → List Value} {m : Nat} (hf : ∀ x, (f x).length = m) : ∀ (l : List α), ((l.map f).flatten).length = l.length * m
  | [] => by simp
  | x :: l => by
    simp only [List.map_cons, List.flatten_cons, List.length_append, hf, flat_len hf l, List.length_cons]
    rw [Nat.add_mul]
    omega

/-- One carrier more has one. -/
theorem own_more : ∀ {cs : List Cr} {j : Nat} {x : Cr} (r : Int), cs[j]? = some x → ((cs.set j ⟨x.fleet, x.own ++ [r]⟩).flatMap (·.own)).Perm (cs.flatMap (·.own) ++ [r])
  | [], _, _, _, h => by simp at h
  | y :: cs, 0, x, r, h => by
    have e : y = x := by simpa using h
    subst e
    simp only [List.set_cons_zero, List.flatMap_cons, List.append_assoc]
    exact List.Perm.append_left _ List.perm_append_comm
  | y :: cs, j + 1, x, r, h => by
    have h' : cs[j]? = some x := by simpa using h
    simp only [List.set_cons_succ, List.flatMap_cons, List.append_assoc]
    exact List.Perm.append_left _ (own_more r h')
theorem own_le : ∀ {cs : List Cr} {j : Nat} {x : Cr}, cs[j]? = some x → x.own.length ≤ (cs.flatMap (·.own)).length
  | [], _, _, h => by simp at h
  | y :: cs, 0, x, h => by
    have e : y = x := by simpa using h
    subst e
    simp only [List.flatMap_cons, List.length_append]
    omega
  | y :: cs, j + 1, x, h => by
    have h' : cs[j]? = some x := by simpa using h
    have := own_le h'
    simp only [List.flatMap_cons, List.length_append]
    omega
def upI (n : Nat) : List Int := (List.range n).map fun i : Nat => (i : Int)
theorem upI_snoc (n : Nat) : upI (n + 1) = upI n ++ [(n : Int)] := by simp [upI, List.range_succ]
theorem upI_mem {n : Nat} {r : Int} : r ∈ upI n ↔ 0 ≤ r ∧ r < n := by
  simp only [upI, List.mem_map, List.mem_range]
  constructor
  · rintro ⟨i, hi, rfl⟩; omega
  · rintro ⟨h0, h1⟩; exact ⟨r.toNat, by omega, by omega⟩
theorem upI_nodup (n : Nat) : (upI n).Nodup := by
  induction n with
  | zero => simp [upI]
  | succ n ih =>
    rw [upI_snoc, List.nodup_append]
    refine ⟨ih, by simp, fun x hx y hy => ?_⟩
    simp at hy
    have := upI_mem.1 hx
    omega
theorem upI_length (n : Nat) : (upI n).length = n := by simp [upI]

theorem rowFree {W : World} {B : Nat} {e : TypeId} {s : Nat} {v : Value} {n : Nat} {xs : List Value} (h : W.ownsRow B e s v n xs) {row : Option Nat} (hr : ∀ x, row = some x → x < B ∨ W.heap.size ≤ x) : v.ownBlock = none ∨ v.ownBlock ≠ row := by
  cases hv : v.ownBlock with
  | none => exact Or.inl rfl
  | some k => exact Or.inr (fun e => by have h1 := h.lt _ hv; rcases hr k e.symm with h2 | h2 <;> omega)

/-- A slice as a call's own are: nothing, or somewhere. -/
def Plain (v : Value) : Prop := v = .slice none 0 0 ∨ ∃ ad m c, v = .slice (some ad) m c
theorem rowPlain {W : World} {B : Nat} {e : TypeId} {s : Nat} {v : Value} {n : Nat} {xs : List Value} (h : W.ownsRow B e s v n xs) : Plain v := by
  rcases h.2 with ⟨h1, _⟩ | ⟨g, cap, cur, h1, _⟩
  · exact Or.inl h1
  · exact Or.inr ⟨_, _, _, h1⟩
/-- A carrier's vehicles, in a row of their own. -/
structure FleetOk (W : World) (B : Nat) (u : Value × Value) (x : Cr) : Prop where
  row : W.ownsRow B 57 5 u.1 x.fleet.length (flatV x.fleet)
  len : 1 ≤ x.fleet.length ∧ x.fleet.length ≤ 4
  good : ∀ h ∈ x.fleet, h.chk = 0
/-- A scene that is being drawn, in rows of the call's own. -/
structure DLay (W : World) (q : Nat) (cm rv sch : Int) (vR vC vL vD : Value) (qs : List Rq) (us : List (Value × Value)) (cs : List Cr) (ls : List Lt) (ds : List Value) : Prop where
  box : At W q 33 #[vR, vC, vL, .int .i64 cm, .int .i64 rv, .int .i64 sch, vD]
  rq : W.ownsRow (q + 1) 66 10 vR qs.length (flatR qs)
  cr : W.ownsRow (q + 1) 53 2 vC us.length (flatC us)
  lt : W.ownsRow (q + 1) 59 2 vL ls.length (flatL ls)
  du : W.ownsRow (q + 1) 73 1 vD ds.length ds
  one : ∀ d ∈ ds, d.oneCell' = true
  len : us.length = cs.length
  fl : ∀ (j : Nat) (u : Value × Value) (x : Cr), us[j]? = some u → cs[j]? = some x → FleetOk W (q + 1) u x
  ow : ∀ (j : Nat) (u : Value × Value) (x : Cr), us[j]? = some u → cs[j]? = some x → W.ownsRow (q + 1) 3 1 u.2 x.own.length (flatI x.own)
  ap : ∀ (i j : Nat) (u u' : Value × Value), i ≠ j → us[i]? = some u → us[j]? = some u' → u.2.ownBlock = none ∨ u.2.ownBlock ≠ u'.2.ownBlock
section
variable {W V : World} {q : Nat} {cm rv sch : Int} {vR vC vL vD : Value} {qs : List Rq} {us : List (Value × Value)} {cs : List Cr} {ls : List Lt} {ds : List Value}
/-- Through a change of the draft, or of new blocks. -/
theorem DLay.free (h : DLay W q cm rv sch vR vC vL vD qs us cs ls ds) {row : Option Nat} (hg : W.grownBy V row) (hr : ∀ x, row = some x → x < q ∨ W.heap.size ≤ x) : DLay V q cm rv sch vR vC vL vD qs us cs ls ds := by
  have hr' : ∀ x, row = some x → x < q + 1 ∨ W.heap.size ≤ x := fun x e => by rcases hr x e with h1 | h1; exact Or.inl (by omega); exact Or.inr h1
  exact ⟨gAt h.box hg (fun e => by have := h.box.inside; rcases hr q e.symm with h1 | h1 <;> omega), h.rq.kept hg (rowFree h.rq hr'), h.cr.kept hg (rowFree h.cr hr'), h.lt.kept hg (rowFree h.lt hr'), h.du.kept hg (rowFree h.du hr'), h.one, h.len,
    fun j u x hu hx => ⟨(h.fl j u x hu hx).row.kept hg (rowFree (h.fl j u x hu hx).row hr'), (h.fl j u x hu hx).len, (h.fl j u x hu hx).good⟩,
    fun j u x hu hx => (h.ow j u x hu hx).kept hg (rowFree (h.ow j u x hu hx) hr'), h.ap⟩
theorem rowSome {B : Nat} {e : TypeId} {s : Nat} {v : Value} {n : Nat} {xs : List Value} (h : W.ownsRow B e s v n xs) (hn : 0 < n) : ∃ g cap, v = .slice (some ⟨g, 0, none⟩) n cap ∧ B ≤ g ∧ g < W.heap.size ∧ n ≤ cap ∧ cap ≤ maxLen := by
  rcases h.2 with ⟨_, h0⟩ | ⟨g, cap, cur, h1, hb, hg, h2, h3, _⟩
  · omega
  · exact ⟨g, cap, h1, hb, (Array.getElem?_eq_some_iff.1 hg).1, h2, h3⟩
theorem rowsLen {α : Type} {f : α → List Value} {m : Nat} (hf : ∀ x, (f x).length = m) (l : List α) : ∀ r ∈ l.map f, r.length = m := fun r hr => by
  obtain ⟨x, _, rfl⟩ := List.mem_map.1 hr
  exact hf x
theorem DLay.scene (h : DLay W q cm rv sch vR vC vL vD qs us cs ls ds) : SceneAt W.heap.size W vR vC vL vD us ⟨qs, cs, ls, cm, rv, sch, ds.length⟩ := by
  refine ⟨RowB.of_owns h.rq (by simp) (rowsLen (f := rqV) (m := 10) (fun _ => rfl) _), ⟨h.len, RowB.of_owns h.cr (by simp) (rowsLen (f := fun u : Value × Value => [u.1, u.2]) (m := 2) (fun _ => rfl) _), fun j u x hu hx => ⟨?_, ?_⟩⟩, RowB.of_owns h.lt (by simp) (rowsLen (f := ltV) (m := 2) (fun _ => rfl) _), rowSlice h.du⟩
  · exact RowB.of_owns (h.fl j u x hu hx).row (by simp) (rowsLen (f := vhV) (m := 5) (fun _ => rfl) _)
  · exact RowB.of_owns (h.ow j u x hu hx) (by simp) (rowsLen (f := inV) (m := 1) (fun _ => rfl) _)
theorem DLay.plain (h : DLay W q cm rv sch vR vC vL vD qs us cs ls ds) : Plain vR ∧ Plain vL ∧ ∀ u ∈ us, Plain u.1 ∧ Plain u.2 := by
  refine ⟨rowPlain h.rq, rowPlain h.lt, fun u hu => ?_⟩
  obtain ⟨j, hj⟩ := List.getElem?_of_mem hu
  have hjl : j < cs.length := by rw [← h.len]; exact (List.getElem?_eq_some_iff.1 hj).1
  exact ⟨rowPlain (h.fl j u _ hj (List.getElem?_eq_getElem hjl)).row, rowPlain (h.ow j u _ hj (List.getElem?_eq_getElem hjl))⟩
theorem flat_one (ds : List Value) : (ds.map fun d => [d]).flatten = ds := by
  induction ds with
  | nil => rfl
  | cons d ds ih => simp [ih]
theorem DLay.draws (h : DLay W q cm rv sch vR vC vL vD qs us cs ls ds) : RowB W.heap.size W vD 1 (ds.map fun d => [d]) :=
  RowB.of_owns (by rw [flat_one]; exact h.du) (by simp) (rowsLen (f := fun d => [d]) (m := 1) (fun _ => rfl) _)
theorem DLay.drawn (h : DLay W q cm rv sch vR vC vL vD qs us cs ls ds) (hq : ∀ x ∈ qs, x.chk = 0) (hn : qs.length ≤ 64) (hc : 1 ≤ cs.length ∧ cs.length ≤ 8) (hl : ls.length ≤ 16) (hd : ds.length = cs.length) (ht : (1 ≤ cm ∧ cm ≤ 64) ∧ (1 ≤ rv ∧ rv ≤ 64) ∧ 0 ≤ sch ∧ sch ≤ 1)
    (hp : (cs.flatMap (·.own)).Perm (upI qs.length)) (hlt : ∀ l ∈ ls, (0 ≤ l.req ∧ l.req < qs.length) ∧ 0 ≤ l.res ∧ l.res ≤ 16777216) (hln : (ls.map (·.req)).Nodup) : Drawn ⟨qs, cs, ls, cm, rv, sch, ds.length⟩ := by
  refine ⟨hq, fun c hc => ?_, hn, hc, hl, hd, ht, hp.nodup_iff.2 (upI_nodup _), hp.length_eq.trans (upI_length _), fun r => ?_, hlt, hln⟩
  · obtain ⟨j, hj⟩ := List.getElem?_of_mem hc
    have hjl : j < us.length := by rw [h.len]; exact (List.getElem?_eq_some_iff.1 hj).1
    have h1 := h.fl j _ c (List.getElem?_eq_getElem hjl) hj
    exact ⟨h1.len, h1.good⟩
  · exact hp.mem_iff.trans upI_mem
theorem DLay.car (h : DLay W q cm rv sch vR vC vL vD qs us cs ls ds) {v' F : Value} {fleet : List Vh} (hrow : V.ownsRow (q + 1) 53 2 v' (us.length + 1) (flatC us ++ [F, .slice none 0 0])) (hg : W.grownBy V vC.ownBlock) (hF : FleetOk W (q + 1) (F, .slice none 0 0) ⟨fleet, []⟩) :
    DLay (V.setCell ⟨q, 1, none⟩ v') q cm rv sch vR v' vL vD qs (us ++ [(F, .slice none 0 0)]) (cs ++ [⟨fleet, []⟩]) ls ds := by
  have hP := put_grown V q 1 v'
  have hne : ∀ {e : TypeId} {s : Nat} {v : Value} {n : Nat} {xs : List Value}, W.ownsRow (q + 1) e s v n xs → e ≠ 53 → (V.setCell ⟨q, 1, none⟩ v').ownsRow (q + 1) e s v n xs := fun hr ht => by
    have h1 := hr.kept hg (rowApart hr h.cr ht)
    exact h1.kept hP (rowNe h1 (by omega))
  refine ⟨?_, hne h.rq (by decide), ?_, hne h.lt (by decide), hne h.du (by decide), h.one, by simp [h.len], ?_, ?_, ?_⟩
  · have := (gAt h.box hg (fun e => by have := (h.cr.lt _ e.symm).1; omega)).put 1 v'
    simpa using this
  · have := hrow.kept hP (rowNe hrow (by omega))
    rw [flatC_snoc]
    simpa using this
  · intro j u x hu hx
    rcases Nat.lt_or_ge j us.length with hj | hj
    · rw [List.getElem?_append_left hj] at hu
      rw [List.getElem?_append_left (by rw [← h.len]; exact hj)] at hx
      have h1 := h.fl j u x hu hx
      exact ⟨hne h1.row (by decide), h1.len, h1.good⟩
    · have hj2 : j = us.length := by have := (List.getElem?_eq_some_iff.1 hu).1; simp at this; omega
      subst hj2
      rw [List.getElem?_append_right (Nat.le_refl _)] at hu
      rw [List.getElem?_append_right (by rw [h.len]; exact Nat.le_refl _)] at hx
      simp [h.len] at hu hx
      subst hu hx
      exact ⟨hne hF.row (by decide), hF.len, hF.good⟩
  · intro j u x hu hx
    rcases Nat.lt_or_ge j us.length with hj | hj
    · rw [List.getElem?_append_left hj] at hu
      rw [List.getElem?_append_left (by rw [← h.len]; exact hj)] at hx
      exact hne (h.ow j u x hu hx) (by decide)
    · have hj2 : j = us.length := by have := (List.getElem?_eq_some_iff.1 hu).1; simp at this; omega
      subst hj2
      rw [List.getElem?_append_right (Nat.le_refl _)] at hu
      rw [List.getElem?_append_right (by rw [h.len]; exact Nat.le_refl _)] at hx
      simp [h.len] at hu hx
      subst hu hx
      exact World.ownsRow_nil _ _ _ _
  · intro i j u u' hij hu hu'
    rcases Nat.lt_or_ge i us.length with hi | hi
    · rw [List.getElem?_append_left hi] at hu
      rcases Nat.lt_or_ge j us.length with hj | hj
      · rw [List.getElem?_append_left hj] at hu'
        exact h.ap i j u u' hij hu hu'
      · have hj2 : j = us.length := by have := (List.getElem?_eq_some_iff.1 hu').1; simp at this; omega
        subst hj2
        rw [List.getElem?_append_right (Nat.le_refl _)] at hu'
        simp at hu'
        subst hu'
        cases hv : u.2.ownBlock with
        | none => exact Or.inl rfl
        | some k => exact Or.inr (by simp [Value.ownBlock])
    · have hi2 : i = us.length := by have := (List.getElem?_eq_some_iff.1 hu).1; simp at this; omega
      subst hi2
      rw [List.getElem?_append_right (Nat.le_refl _)] at hu
      simp at hu
      subst hu
      exact Or.inl rfl
theorem DLay.draw (h : DLay W q cm rv sch vR vC vL vD qs us cs ls ds) {v' d : Value} (hrow : V.ownsRow (q + 1) 73 1 v' (ds.length + 1) (ds ++ [d])) (hg : W.grownBy V vD.ownBlock) (hd : d.oneCell' = true) :
    DLay (V.setCell ⟨q, 6, none⟩ v') q cm rv sch vR vC vL v' qs us cs ls (ds ++ [d]) := by
  have hP := put_grown V q 6 v'
  have hne : ∀ {e : TypeId} {s : Nat} {v : Value} {n : Nat} {xs : List Value}, W.ownsRow (q + 1) e s v n xs → e ≠ 73 → (V.setCell ⟨q, 6, none⟩ v').ownsRow (q + 1) e s v n xs := fun hr ht => by
    have h1 := hr.kept hg (rowApart hr h.du ht)
    exact h1.kept hP (rowNe h1 (by omega))
  refine ⟨?_, hne h.rq (by decide), hne h.cr (by decide), hne h.lt (by decide), ?_, ?_, h.len, fun j u x hu hx => ⟨hne (h.fl j u x hu hx).row (by decide), (h.fl j u x hu hx).len, (h.fl j u x hu hx).good⟩, fun j u x hu hx => hne (h.ow j u x hu hx) (by decide), h.ap⟩
  · have := (gAt h.box hg (fun e => by have := (h.du.lt _ e.symm).1; omega)).put 6 v'
    simpa using this
  · have := hrow.kept hP (rowNe hrow (by omega))
    simpa using this
  · intro x hx
    rcases List.mem_append.1 hx with hx | hx
    · exact h.one x hx
    · simp at hx; rw [hx]; exact hd
theorem DLay.more (h : DLay W q cm rv sch vR vC vL vD qs us cs ls ds) {v' : Value} {l : Lt} (hrow : V.ownsRow (q + 1) 59 2 v' (ls.length + 1) (flatL ls ++ ltV l)) (hg : W.grownBy V vL.ownBlock) :
    DLay (V.setCell ⟨q, 2, none⟩ v') q cm rv sch vR vC v' vD qs us cs (ls ++ [l]) ds := by
  have hP := put_grown V q 2 v'
  have hne : ∀ {e : TypeId} {s : Nat} {v : Value} {n : Nat} {xs : List Value}, W.ownsRow (q + 1) e s v n xs → e ≠ 59 → (V.setCell ⟨q, 2, none⟩ v').ownsRow (q + 1) e s v n xs := fun hr ht => by
    have h1 := hr.kept hg (rowApart hr h.lt ht)
    exact h1.kept hP (rowNe h1 (by omega))
  refine ⟨?_, hne h.rq (by decide), hne h.cr (by decide), ?_, hne h.du (by decide), h.one, h.len, fun j u x hu hx => ⟨hne (h.fl j u x hu hx).row (by decide), (h.fl j u x hu hx).len, (h.fl j u x hu hx).good⟩, fun j u x hu hx => hne (h.ow j u x hu hx) (by decide), h.ap⟩
  · have := (gAt h.box hg (fun e => by have := (h.lt.lt _ e.symm).1; omega)).put 2 v'
    simpa using this
  · have := hrow.kept hP (rowNe hrow (by omega))
    rw [flatL_snoc]
    simpa using this
theorem DLay.own {gC cap : Nat} (h : DLay W q cm rv sch vR (.slice (some ⟨gC, 0, none⟩) us.length cap) vL vD qs us cs ls ds) {j : Nat} {u : Value × Value} {x : Cr} (hu : us[j]? = some u) (hx : cs[j]? = some x) {v' : Value} {r : Int}
    (hrow : V.ownsRow (q + 1) 3 1 v' (x.own.length + 1) (flatI x.own ++ inV r)) (hg : W.grownBy V u.2.ownBlock) (hat : v'.ownBlock = u.2.ownBlock ∨ ∃ b, v'.ownBlock = some b ∧ W.heap.size ≤ b) :
    DLay (V.setCell ⟨gC, 2 * j + 1, none⟩ v') q cm rv sch vR (.slice (some ⟨gC, 0, none⟩) us.length cap) vL vD qs (us.set j (u.1, v')) (cs.set j ⟨x.fleet, x.own ++ [r]⟩) ls ds := by
  have hP := put_grown V gC (2 * j + 1) v'
  have how := h.ow j u x hu hx
  have hcr := h.cr.kept hg (rowApart h.cr how (by decide))
  have hgC : (Value.slice (some ⟨gC, 0, none⟩) us.length cap).ownBlock = some gC := rfl
  have hne : ∀ {e : TypeId} {s : Nat} {v : Value} {n : Nat} {xs : List Value}, W.ownsRow (q + 1) e s v n xs → e ≠ 3 → e ≠ 53 → (V.setCell ⟨gC, 2 * j + 1, none⟩ v').ownsRow (q + 1) e s v n xs := fun hr ht ht2 => by
    have h1 := hr.kept hg (rowApart hr how ht)
    exact h1.kept hP (rowApart h1 hcr ht2)
  have hjl : j < us.length := (List.getElem?_eq_some_iff.1 hu).1
  have hgq := (hcr.lt _ hgC).1
  have hst := hcr.stored (2 * j + 1) v'
  have hget : ∀ (i : Nat) (y : Value × Value), (us.set j (u.1, v'))[i]? = some y → (i = j ∧ y = (u.1, v')) ∨ (i ≠ j ∧ us[i]? = some y) := by
    intro i y hy
    by_cases hij : j = i
    · subst hij
      rw [List.getElem?_set_self hjl] at hy
      exact Or.inl ⟨rfl, (Option.some.inj hy).symm⟩
    · rw [List.getElem?_set_ne hij] at hy
      exact Or.inr ⟨fun e => hij e.symm, hy⟩
  have hgetc : ∀ (i : Nat) (y : Cr), (cs.set j ⟨x.fleet, x.own ++ [r]⟩)[i]? = some y → (i = j ∧ y = ⟨x.fleet, x.own ++ [r]⟩) ∨ (i ≠ j ∧ cs[i]? = some y) := by
    intro i y hy
    by_cases hij : j = i
    · subst hij
      rw [List.getElem?_set_self (by rw [← h.len]; exact hjl)] at hy
      exact Or.inl ⟨rfl, (Option.some.inj hy).symm⟩
    · rw [List.getElem?_set_ne hij] at hy
      exact Or.inr ⟨fun e => hij e.symm, hy⟩
  refine ⟨?_, hne h.rq (by decide) (by decide), ?_, hne h.lt (by decide) (by decide), hne h.du (by decide) (by decide), h.one, by simp [h.len], ?_, ?_, ?_⟩
  · exact (gAt h.box hg (fun e => by have := (how.lt _ e.symm).1; omega)).far (by omega) _ _
  · have := hst.1
    rw [flatC_set v' hu] at this
    simpa using this
  · intro i y z hy hz
    rcases hget i y hy with ⟨rfl, rfl⟩ | ⟨hi, hy⟩
    · rcases hgetc i z hz with ⟨_, rfl⟩ | ⟨hi, _⟩
      · have h1 := h.fl i u x hu hx
        exact ⟨hne h1.row (by decide) (by decide), h1.len, h1.good⟩
      · exact absurd rfl hi
    · rcases hgetc i z hz with ⟨e, _⟩ | ⟨_, hz⟩
      · exact absurd e hi
      · have h1 := h.fl i y z hy hz
        exact ⟨hne h1.row (by decide) (by decide), h1.len, h1.good⟩
  · intro i y z hy hz
    rcases hget i y hy with ⟨rfl, rfl⟩ | ⟨hi, hy⟩
    · rcases hgetc i z hz with ⟨_, rfl⟩ | ⟨hi, _⟩
      · have := hrow.kept hP (rowApart hrow hcr (by decide))
        simp only [List.length_append, List.length_singleton, flatI_snoc]
        exact this
      · exact absurd rfl hi
    · rcases hgetc i z hz with ⟨e, _⟩ | ⟨_, hz⟩
      · exact absurd e hi
      · have h1 := (h.ow i y z hy hz).kept hg (h.ap i j y u hi hy hu)
        exact h1.kept hP (rowApart h1 hcr (by decide))
  · have hfar : ∀ (i : Nat) (y : Value × Value), i ≠ j → us[i]? = some y → (y.2.ownBlock = none ∨ y.2.ownBlock ≠ v'.ownBlock) ∧ (v'.ownBlock = none ∨ v'.ownBlock ≠ y.2.ownBlock) := by
      intro i y hi hy
      rcases hat with e | ⟨b, e, hb⟩
      · rw [e]
        exact ⟨h.ap i j y u hi hy hu, h.ap j i u y (fun e => hi e.symm) hu hy⟩
      · rw [e]
        have hc : ∃ z, cs[i]? = some z := ⟨_, List.getElem?_eq_getElem (by rw [← h.len]; exact (List.getElem?_eq_some_iff.1 hy).1)⟩
        obtain ⟨z, hz⟩ := hc
        have h1 := h.ow i y z hy hz
        refine ⟨rowFree h1 (fun b' e' => by cases e'; exact Or.inr hb), Or.inr (fun e => ?_)⟩
        have := (h1.lt _ e.symm).2
        omega
    intro i k y y' hik hy hy'
    rcases hget i y hy with ⟨e1, e2⟩ | ⟨hi, hz⟩
    · rcases hget k y' hy' with ⟨e, _⟩ | ⟨hk, hz'⟩
      · exact absurd (e1.trans e.symm) hik
      · rw [e2]; exact (hfar k y' hk hz').2
    · rcases hget k y' hy' with ⟨e1, e2⟩ | ⟨hk, hz'⟩
      · rw [e2]; exact (hfar i y hi hz).1
      · exact h.ap i k y y' hik hz hz'
end

end Go.Proofs.YtlkijbakfoabaaaDoor.Scene

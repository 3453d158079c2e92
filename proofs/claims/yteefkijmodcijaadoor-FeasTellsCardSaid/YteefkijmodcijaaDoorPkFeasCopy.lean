import Derived.Test.YteefkijmodcijaaDoorPkFeasCheck
import Derived.Test.YteefkijmodcijaaDoorPkRouteLen

/-
  Drawn regions that copy rows and lay one variable: only blocks of the variable's type are written; what is known of values lasts. An append to an empty row of the call's own. No program's walk here.
-/
namespace Go.Proofs.YteefkijmodcijaaDoor.Feas
open Go.RowKit Go.Sort Go.Proofs.YteefkijmodcijaaDoor.Mem Go.Proofs.YteefkijmodcijaaDoor.Route
set_option linter.unusedVariables false

/-- Blocks below B, and all that are of another type than T, stay. -/
def Kp (B : Nat) (T : TypeId) (w w' : World) : Prop := Below B w w' ∧ ∀ (b : Nat) (cs : Array Value) (t : TypeId) (f : Nat × Nat), w.heap[b]? = some (.cells cs t f) → t ≠ T → w'.heap[b]? = some (.cells cs t f)
theorem Kp.trans {B : Nat} {T : TypeId} {a b c : World} (h : Kp B T a b) (k : Kp B T b c) : Kp B T a c := ⟨h.1.trans k.1, fun i cs t f hi ht => k.2 i cs t f (h.2 i cs t f hi ht) ht⟩
theorem Kp.new {B : Nat} {T : TypeId} {a b : World} (h : Below a.heap.size a b) (hB : B ≤ a.heap.size) : Kp B T a b :=
  ⟨h.mono hB, fun i cs t f hi _ => (h.block i (Array.getElem?_eq_some_iff.1 hi).1).trans hi⟩
theorem Kp.put {B : Nat} {T : TypeId} {a : World} {g : Nat} {cs : Array Value} (h : At a g T cs) (hB : B ≤ g) (i : Nat) (x : Value) : Kp B T a (a.setCell ⟨g, i, none⟩ x) :=
  ⟨(Below.refl _ _).setCell (by exact hB) _, fun b ds t f hb ht => by
    refine (Below.heap_setCell a ⟨g, i, none⟩ x b (fun e => ?_)).trans hb
    have e : b = g := e
    subst e
    unfold At at h
    rw [h] at hb
    cases hb
    exact ht rfl⟩
theorem Kp.at_ {B : Nat} {T : TypeId} {a b : World} {g : Nat} {t : TypeId} {cs : Array Value} (h : Kp B T a b) (hA : At a g t cs) (ht : t ≠ T) : At b g t cs := h.2 g cs t _ hA ht
theorem Kp.owns {B base : Nat} {T : TypeId} {a b : World} {e : TypeId} {size n : Nat} {v : Value} {xs : List Value} (h : Kp B T a b) (ho : a.ownsRow base e size v n xs) (ht : e ≠ T) : b.ownsRow base e size v n xs := by
  obtain ⟨hl, h1 | ⟨g, cap, cur, rfl, hg1, hg, hr⟩⟩ := ho
  · exact ⟨hl, .inl h1⟩
  · exact ⟨hl, .inr ⟨g, cap, cur, rfl, hg1, h.2 g cur e _ hg ht, hr⟩⟩
theorem Kp.size {B : Nat} {T : TypeId} {a b : World} (h : Kp B T a b) : a.heap.size ≤ b.heap.size := h.1.size

inductive KnT (B : Nat) (T : TypeId) where
  | val (u : Value)
  | of (p : Value → World → Prop) (hp : ∀ {v w w'}, p v w → Kp B T w w' → p v w')
  | any
def KnT.holds {B : Nat} {T : TypeId} : KnT B T → Value → World → Prop
  | .val u, v, _ => v = u
  | .of p _, v, w => p v w
  | .any, _, _ => True
def VT {B : Nat} {T : TypeId} (ks : List (KnT B T)) (i : Nat) (v : Value) (w : World) : Prop := ∀ k, ks[i]? = some k → k.holds v w
section
variable {B : Nat} {T : TypeId} {ks : List (KnT B T)} {i : Nat} {v u : Value} {w w' : World} {p : Value → World → Prop} {hp : ∀ {v w w'}, p v w → Kp B T w w' → p v w'}
theorem VT.keep (h : VT ks i v w) (hb : Kp B T w w') : VT ks i v w' := fun k hk => by
  have h1 := h k hk
  cases k with
  | val u => exact h1
  | of p hp => exact hp h1 hb
  | any => trivial
theorem VT.val (h : ks[i]? = some (.val u)) (e : v = u) : VT ks i v w := fun k hk => by rw [h] at hk; cases hk; exact e
theorem VT.of (h : ks[i]? = some (.of p hp)) (e : p v w) : VT ks i v w := fun k hk => by rw [h] at hk; cases hk; exact e
theorem VT.any (h : ks[i]? = some .any) : VT ks i v w := fun k hk => by rw [h] at hk; cases hk; trivial
theorem VT.eq (hV : VT ks i v w) (h : ks[i]? = some (.val u)) : v = u := hV _ h
theorem VT.get (hV : VT ks i v w) (h : ks[i]? = some (.of p hp)) : p v w := hV _ h
end

/-- An empty row; a row; by what it is. -/
def EmptyAt (B : Nat) (e : TypeId) (m : Nat) (v : Value) (w : World) : Prop := ∃ g : Nat, v = .slice (some ⟨g, 0, none⟩) 0 0 ∧ w.ownsRow B e m v 0 []
def RowAt (B : Nat) (e : TypeId) (m n : Nat) (xs : List Value) (v : Value) (w : World) : Prop := w.ownsRow B e m v n xs
/-- The variable: laid by operation a, written by operation s. -/
def ZV (a s B : Nat) (T : TypeId) (zs cs : Array Value) (done : Nat → Bool) (ys : Nat → Value) (w : World) : Prop :=
  (done s = true → done a = true) ∧ (done a = true → ∃ g : Nat, ys a = .pointer (some ⟨g, 0, none⟩) ∧ B ≤ g ∧ (done s = false → At w g T zs) ∧ (done s = true → At w g T cs))
theorem ZV.start {a s B : Nat} {T : TypeId} {zs cs : Array Value} {ys : Nat → Value} {w : World} : ZV a s B T zs cs (fun _ => false) ys w := ⟨fun h => (by cases h), fun h => (by cases h)⟩
theorem ZV.light {a s B k : Nat} {T : TypeId} {zs cs : Array Value} {done : Nat → Bool} {ys : Nat → Value} {w w' : World} {v : Value} (h : ZV a s B T zs cs done ys w) (ha : a ≠ k) (hs : s ≠ k) (hb : Below w.heap.size w w') : ZV a s B T zs cs (Sched.mark done k) (Sched.upd ys k v) w' := by
  have ea : Sched.mark done k a = done a := by simp [Sched.mark, ha]
  have es : Sched.mark done k s = done s := by simp [Sched.mark, hs]
  unfold ZV
  rw [ea, es, show Sched.upd ys k v a = ys a by simp [Sched.upd, ha]]
  refine ⟨h.1, fun hd => ?_⟩
  obtain ⟨g, e, hg, h0, h1⟩ := h.2 hd
  exact ⟨g, e, hg, fun d => (h0 d).keep hb (h0 d).inside, fun d => (h1 d).keep hb (h1 d).inside⟩
theorem ZV.lay {a s B : Nat} {T : TypeId} {zs cs : Array Value} {done : Nat → Bool} {ys : Nat → Value} {w w' : World} {g : Nat} (h : ZV a s B T zs cs done ys w) (hn : done a = false) (has : a ≠ s) (hA : At w' g T zs) (hB : B ≤ g) :
    ZV a s B T zs cs (Sched.mark done a) (Sched.upd ys a (.pointer (some ⟨g, 0, none⟩))) w' := by
  have hds : done s = false := by
    cases e : done s
    · rfl
    · rw [h.1 e] at hn; cases hn
  have es : Sched.mark done a s = false := by simp [Sched.mark, Ne.symm has, hds]
  unfold ZV
  rw [es]
  exact ⟨(fun e => by cases e), fun _ => ⟨g, by simp [Sched.upd], hB, (fun _ => hA), (fun e => by cases e)⟩⟩
theorem ZV.put {a s B : Nat} {T : TypeId} {zs cs : Array Value} {done : Nat → Bool} {ys : Nat → Value} {w w' : World} {v : Value} {g : Nat} (h : ZV a s B T zs cs done ys w) (hd : done a = true) (has : a ≠ s) (hy : ys a = .pointer (some ⟨g, 0, none⟩)) (hA : At w' g T cs) (hB : B ≤ g) :
    ZV a s B T zs cs (Sched.mark done s) (Sched.upd ys s v) w' := by
  have ea : Sched.mark done s a = true := by simp [Sched.mark, has, hd]
  have es : Sched.mark done s s = true := by simp [Sched.mark]
  unfold ZV
  rw [ea, es]
  exact ⟨(fun _ => rfl), fun _ => ⟨g, by simp [Sched.upd, has, hy], hB, (fun e => by cases e), (fun _ => hA)⟩⟩
theorem ZV.at0 {a s B : Nat} {T : TypeId} {zs cs : Array Value} {done : Nat → Bool} {ys : Nat → Value} {w : World} (h : ZV a s B T zs cs done ys w) (hd : done a = true) (hs : done s = false) : ∃ g : Nat, ys a = .pointer (some ⟨g, 0, none⟩) ∧ B ≤ g ∧ At w g T zs := by
  obtain ⟨g, e, hg, h0, _⟩ := h.2 hd
  exact ⟨g, e, hg, h0 hs⟩
theorem ZV.at1 {a s B : Nat} {T : TypeId} {zs cs : Array Value} {done : Nat → Bool} {ys : Nat → Value} {w : World} (h : ZV a s B T zs cs done ys w) (hd : done a = true) (hs : done s = true) : ∃ g : Nat, ys a = .pointer (some ⟨g, 0, none⟩) ∧ B ≤ g ∧ At w g T cs := by
  obtain ⟨g, e, hg, _, h1⟩ := h.2 hd
  exact ⟨g, e, hg, h1 hs⟩

/-- 'append([]T{}, x...)', whatever x is: no old block is written. -/
theorem wpList_append_fresh {P : Program} {w : World} {ops : Array Oper} {rest : List Oper} {o : Oper} {a : Act} {Q : Exit → Act → World → Prop} (hgd : o.guard = none) (s x : Operand) (t : TypeId)
    (ho : o.op = .call { callee := .builtin .append, args := #[s, x], argTypes := #[t, t] })
    (base : Nat) (e : TypeId) (i : TypeInfo) (z : Value) (size bytes : Nat) (ht : P.underlying t = some (.slice e)) (hi : P.info? e = some i) (hz : i.zero = some z)
    (hsize : i.size = size) (hby : i.bytes = bytes) (hzs : z.cells.size = size) (hsz : 0 < size)
    (g : Nat) (hs : a.eval s = .slice (some ⟨g, 0, none⟩) 0 0) (hown : w.ownsRow base e size (.slice (some ⟨g, 0, none⟩) 0 0) 0 [])
    (vx : Value) (m : Nat) (hvx : ∃ y c, vx = .slice y m c) (hP : Plain vx) (news : List Value) (hx : a.eval x = vx) (hl : news.length = m * size) (hnews : ∀ ad c, vx = .slice (some ad) m c → ∀ j u, news[j]? = some u → w.cell? (ad.add j) = some u) (h1 : ∀ u ∈ news, u.oneCell' = true)
    (h63 : m ≤ maxLen) (hbytes : m * bytes ≤ 140737488355328) (hbase : base ≤ w.heap.size)
    (h : ∀ v' w', w'.ownsRow base e size v' m news → Below w.heap.size w w' → wpList P ops Q rest (a.put o.dst v') w') : wpList P ops Q (o :: rest) a w := by
  obtain ⟨y, c, rfl⟩ := hvx
  rcases hP with hn | ⟨ad, mm, cc, he⟩
  · simp only [Value.slice.injEq] at hn
    obtain ⟨rfl, rfl, rfl⟩ := hn
    have hnil : news = [] := List.eq_nil_of_length_eq_zero (by rw [hl]; simp)
    subst hnil
    refine wpList_append_own_none hgd s x t ho base e i size ht hi _ 0 [] hs hown hx ?_
    exact h _ w hown (Below.refl _ _)
  · simp only [Value.slice.injEq] at he
    obtain ⟨rfl, rfl, rfl⟩ := he
    by_cases hm : m = 0
    · subst hm
      have hnil : news = [] := List.eq_nil_of_length_eq_zero (by rw [hl]; simp)
      subst hnil
      refine wpList_plain hgd fun K hK' => ?_
      have hrun := run_append_room_cells (P := P) w t o.type e i ht hi g 0 0 0 ad 0 c [] (by simp) (fun j u hj => by simp at hj) (fun u hu => by cases hu) (Nat.le_refl _) (fun j hj => by simp at hj) (fun j hj => by simp at hj)
      unfold Oper.wp
      simp [execOp, ho, resolve, invoke, builtin, hs, hx, hrun, Result.andThen]
      exact hK' _ _ (h _ w hown (Below.refl _ _))
    · refine wpList_append_grows w hgd s x t ho e i z size bytes ht hi hz hsize hby hzs hsz (some ⟨g, 0, none⟩) 0 0 [] hs (fun e => by cases e) (by simp) (fun b _ j u hj => by simp at hj) ad m c news hx hl (hnews ad c rfl) h1 (by omega) (by omega) (by simpa using hbytes) ?_
      intro v' w' h2 h3
      exact h v' w' (by simpa using owns_more h2 hbase) (gBelow h3)
end Go.Proofs.YteefkijmodcijaaDoor.Feas

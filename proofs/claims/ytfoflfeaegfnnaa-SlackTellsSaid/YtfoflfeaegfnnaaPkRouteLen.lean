import Derived.Test.YtfoflfeaegfnnaaPkRouteRefChk

/-
  The contract of package route's lengthened: a row with a stop more at a place, in memory of its own.
-/
namespace Go.Proofs.Ytfoflfeaegfnnaa.Route
open Go.RowKit Go.Sort Go.Proofs.Ytfoflfeaegfnnaa.Mem
set_option linter.unusedVariables false

/-- A slice as rows are: nothing, or somewhere. -/
def Plain (v : Value) : Prop := v = .slice none 0 0 ∨ ∃ ad m c, v = .slice (some ad) m c
theorem gRefl (W : World) (row : Option Nat) : W.grownBy W row := ⟨rfl, rfl, rfl, Nat.le_refl _, fun _ _ _ => rfl⟩
theorem gDrew (W : World) (row : Option Nat) : W.grownBy { W with drawn := W.drawn + 1 } row := ⟨rfl, rfl, rfl, Nat.le_refl _, fun _ _ _ => rfl⟩
theorem gAt {w v : World} {g : Nat} {t : TypeId} {cs : Array Value} {row : Option Nat} (h : At w g t cs) (hg : w.grownBy v row) (hne : some g ≠ row) : At v g t cs := (hg.block g h.inside hne).trans h
theorem gBelow {w v : World} (h : w.grownBy v none) : Below w.heap.size w v := (Below.refl _ _).grown h (Nat.le_refl _) (fun r e => by cases e)

theorem owns_more {W : World} {b c : Nat} {e : TypeId} {size n : Nat} {v : Value} {xs : List Value} (h : W.ownsRow c e size v n xs) (hb : b ≤ c) : W.ownsRow b e size v n xs := by
  obtain ⟨hl, h1 | ⟨g, cap, cur, rfl, hg1, hr⟩⟩ := h
  · exact ⟨hl, .inl h1⟩
  · exact ⟨hl, .inr ⟨g, cap, cur, rfl, by omega, hr⟩⟩
/-- 'append(s, x...)', whatever x is: nothing, or somewhere. -/
theorem wpList_append_plain {P : Program} {w : World} {ops : Array Oper} {rest : List Oper} {o : Oper} {a : Act} {Q : Exit → Act → World → Prop} (hgd : o.guard = none) (s x : Operand) (t : TypeId)
    (ho : o.op = .call { callee := .builtin .append, args := #[s, x], argTypes := #[t, t] })
    (base : Nat) (e : TypeId) (i : TypeInfo) (z : Value) (size bytes : Nat) (ht : P.underlying t = some (.slice e)) (hi : P.info? e = some i) (hz : i.zero = some z)
    (hsize : i.size = size) (hby : i.bytes = bytes) (hzs : z.cells.size = size) (hsz : 0 < size)
    (v : Value) (n : Nat) (xs : List Value) (hs : a.eval s = v) (hown : w.ownsRow base e size v n xs)
    (vx : Value) (m : Nat) (hvx : ∃ y c, vx = .slice y m c) (hP : Plain vx) (news : List Value) (hx : a.eval x = vx) (hl : news.length = m * size) (hnews : ∀ ad c, vx = .slice (some ad) m c → ∀ j u, news[j]? = some u → w.cell? (ad.add j) = some u) (h1 : ∀ u ∈ news, u.oneCell' = true)
    (h63 : n + m ≤ maxLen) (hbytes : (n + m) * bytes ≤ 140737488355328) (hbase : base ≤ w.heap.size)
    (h : ∀ v' w', w'.ownsRow base e size v' (n + m) (xs ++ news) → w.grownBy w' v.ownBlock → wpList P ops Q rest (a.put o.dst v') w') : wpList P ops Q (o :: rest) a w := by
  obtain ⟨y, c, rfl⟩ := hvx
  rcases hP with hn | ⟨ad, mm, cc, he⟩
  · simp only [Value.slice.injEq] at hn
    obtain ⟨rfl, rfl, rfl⟩ := hn
    have hnil : news = [] := List.eq_nil_of_length_eq_zero (by rw [hl]; simp)
    subst hnil
    refine wpList_append_own_none hgd s x t ho base e i size ht hi v n xs hs hown hx ?_
    exact h v w (by simpa using hown) (gRefl _ _)
  · simp only [Value.slice.injEq] at he
    obtain ⟨rfl, rfl, rfl⟩ := he
    exact wpList_append_own w hgd s x t ho base e i z size bytes ht hi hz hsize hby hzs hsz v n xs hs hown ad m c news hx hl (hnews ad c rfl) h1 h63 hbytes hbase (fun v' w' h2 h3 _ => h v' w' h2 h3)

theorem add_at (g o j : Nat) : (⟨g, o, none⟩ : Addr).add j = ⟨g, o + j, none⟩ := by
  unfold Addr.add
  split
  · rename_i h; rw [h]; rfl
  · rfl
theorem map_get {l : List (Int × Int)} {i : Nat} {r : List Value} (h : (l.map stV)[i]? = some r) : ∃ s, l[i]? = some s ∧ r = stV s := by
  rw [List.getElem?_map] at h
  obtain ⟨s, h1, h2⟩ := Option.map_eq_some_iff.1 h
  exact ⟨s, h1, h2.symm⟩
theorem Row.flat {B : Nat} {W : World} {b : Addr} {N cap : Nat} {l : List (Int × Int)} (h : Row B W (.slice (some b) N cap) l) : ∀ j u, (flatS l)[j]? = some u → W.cell? (b.add j) = some u := by
  intro j u hj
  obtain ⟨i, k, r, e, hr, hu⟩ := flat_of (m := 2) (by decide) (fun r hr => by obtain ⟨s, _, rfl⟩ := List.mem_map.1 hr; rfl) j u hj
  obtain ⟨g, o, hx, hg, hc⟩ := RowB.row h hr
  cases hx
  have := hc k u hu
  rw [add_at, e, show o + (i * 2 + k) = o + i * 2 + k by omega]
  exact this
theorem Row.dropFrom {B : Nat} {W : World} {x : Option Addr} {N cap k : Nat} {l : List (Int × Int)} (h : Row B W (.slice x N cap) l) (hl : l.length = N) (hk : k ≤ N) : Row B W (.slice (if cap = k then x else x.map (·.add (k * 2))) (N - k) (cap - k)) (l.drop k) := by
  obtain ⟨x', cap', e, h1, h2, h0, h3⟩ := h
  simp only [Value.slice.injEq, List.length_map] at e
  obtain ⟨rfl, rfl, rfl⟩ := e
  simp only [List.length_map] at h1
  refine ⟨(if cap = k then x else x.map (·.add (k * 2))), cap - k, by simp, by simp; omega, by omega, fun hx => ?_, fun j r hj => ?_⟩
  · have : x = none := by
      split at hx
      · exact hx
      · simpa using hx
    have := h0 this
    simp at this
    simp [this]
  · obtain ⟨s, hs, rfl⟩ := map_get hj
    rw [List.getElem?_drop] at hs
    obtain ⟨g, o, rfl, hg, hc⟩ := h3 (k + j) (stV s) (by rw [List.getElem?_map, hs]; rfl)
    have hkl : k + j < l.length := (List.getElem?_eq_some_iff.1 hs).1
    refine ⟨g, o + k * 2, ?_, hg, fun q u hq => ?_⟩
    · rw [if_neg (by omega)]
      simp [add_at]
    · rw [show o + k * 2 + j * 2 + q = o + (k + j) * 2 + q by omega]
      exact hc q u hq
theorem Row.plain {B : Nat} {W : World} {v : Value} {l : List (Int × Int)} (h : Row B W v l) : Plain v := by
  obtain ⟨x, cap, rfl, h1, h2, h0, _⟩ := h
  cases x with
  | none =>
    have := h0 rfl
    simp at this
    exact .inl (by simp [this])
  | some b => exact .inr ⟨b, _, _, rfl⟩

/-- In memory of its own. -/
def New (B : Nat) (v : Value) : Prop := ∀ r, v.ownBlock = some r → B ≤ r
theorem New.nil (B : Nat) : New B (.slice none 0 0) := fun r e => by cases e
theorem New.more {B C : Nat} {v : Value} (h : New B v) (hc : C ≤ B) : New C v := fun r e => Nat.le_trans hc (h r e)
/-- What the operations leave that lay a longer row. -/
def VL (L S : Value) (p : Int) (s1 s2 : Int) (x : Option Addr) (k N : Nat) (fs : List Value) : Nat → Value → World → Prop
  | 0, y, _ => y = L
  | 1, y, _ => y = .int .i64 p
  | 2, y, _ => y = .int .i64 p
  | 3, y, _ => y = .slice x k k
  | 4, y, _ => y = .agg #[.int .i64 s1, .int .i64 s2]
  | 5, y, W => ∃ g1 : Nat, y = .slice (some ⟨g1, 0, none⟩) 1 1 ∧ N ≤ g1 ∧ At W g1 58 #[.int .i64 s1, .int .i64 s2]
  | 6, y, W => W.ownsRow N 58 2 y (k + 1) fs
  | 7, y, _ => y = L
  | 8, y, _ => y = .int .i64 p
  | 9, y, _ => y = S
  | _, _, _ => True
theorem VL.keep {L S : Value} {p s1 s2 : Int} {x : Option Addr} {k N : Nat} {fs : List Value} {i : Nat} {v : Value} {W V : World} (h : VL L S p s1 s2 x k N fs i v W) (hg : W.grownBy V none) : VL L S p s1 s2 x k N fs i v V := by
  match i with
  | 0 | 1 | 2 | 3 | 4 | 7 | 8 | 9 => exact h
  | 5 =>
    obtain ⟨g, e, h1, h2⟩ := h
    exact ⟨g, e, h1, gAt h2 hg (by simp)⟩
  | 6 => exact World.ownsRow.kept h hg (by cases hv : v.ownBlock <;> simp)
  | i + 10 => trivial



end Go.Proofs.Ytfoflfeaegfnnaa.Route

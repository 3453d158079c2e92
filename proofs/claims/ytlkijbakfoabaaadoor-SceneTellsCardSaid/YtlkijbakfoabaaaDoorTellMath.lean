/-
  What a draft's scene is turned into, and what a scene is cut to: rows, and the lists that they hold.
-/
import Derived.Test.YtlkijbakfoabaaaDoorDraftScene
import Derived.Test.YtlkijbakfoabaaaDoorTurnMath
import Derived.Laws.AppendOwnNone
namespace Go.Proofs.YtlkijbakfoabaaaDoor.Scene
open Go.RowKit Go.Sort Go.Proofs.YtlkijbakfoabaaaDoor.Mem
set_option linter.unusedVariables false

theorem flat_setT {α : Type} {f : α → List Value} {m : Nat} (hf : ∀ x, (f x).length = m) {x x' : α} {i : Nat} {v : Value} (hi : i < m) (hx' : (f x).set i v = f x') : ∀ {l : List α} {j : Nat}, l[j]? = some x → ((l.map f).flatten).set (j * m + i) v = ((l.set j x').map f).flatten
  | [], _, h => by simp at h
  | y :: l, 0, h => by
    have e : y = x := by simpa using h
    subst e
    simp only [List.map_cons, List.flatten_cons, List.set_cons_zero, Nat.zero_mul, Nat.zero_add]
    rw [List.set_append_left _ _ (by rw [hf]; exact hi), hx']
  | y :: l, j + 1, h => by
    have h' : l[j]? = some x := by simpa using h
    have ih := flat_setT hf hi hx' h'
    simp only [List.map_cons, List.flatten_cons, List.set_cons_succ]
    rw [List.set_append_right _ _ (by rw [hf, Nat.add_mul]; omega), hf, show (j + 1) * m + i - m = j * m + i by rw [Nat.add_mul]; omega, ih]

/-- 'append(s, x...)', whatever x is: nothing, or somewhere. -/
theorem wpList_append_plain {P : Program} {w : World} {ops : Array Oper} {rest : List Oper} {o : Oper} {a : Act} {Q : Exit → Act → World → Prop} (hgd : o.guard = none) (s x : Operand) (t : TypeId)
    (ho : o.op = .call { callee := .builtin .append, args := #[s, x], argTypes := #[t, t] })
    (base : Nat) (e : TypeId) (i : TypeInfo) (z : Value) (size bytes : Nat) (ht : P.underlying t = some (.slice e)) (hi : P.info? e = some i) (hz : i.zero = some z)
    (hsize : i.size = size) (hby : i.bytes = bytes) (hzs : z.cells.size = size) (hsz : 0 < size)
    (v : Value) (n : Nat) (xs : List Value) (hs : a.eval s = v) (hown : w.ownsRow base e size v n xs)
    (vx : Value) (m : Nat) (hvx : ∃ y c, vx = .slice y m c) (hP : Plain vx) (news : List Value) (hx : a.eval x = vx) (hl : news.length = m * size) (hnews : ∀ ad c, vx = .slice (some ad) m c → ∀ j u, news[j]? = some u → w.cell? (ad.add j) = some u) (h1 : ∀ u ∈ news, u.oneCell' = true)
    (h63 : n + m ≤ maxLen) (hbytes : (n + m) * bytes ≤ 140737488355328) (hbase : base ≤ w.heap.size)
    (h : ∀ v' w', w'.ownsRow base e size v' (n + m) (xs ++ news) → w.grownBy w' v.ownBlock → wpList P ops Q rest (a.put o.dst v') w') : wpList P ops Q (o :: rest) a w := by
  obtain ⟨y, c, rfl⟩ := hvx
  rcases hP with hn | ⟨ad, mm, cc, he⟩
  · simp only [Value.slice.injEq] at hn
    obtain ⟨rfl, rfl, rfl⟩ := hn
    have hnil : news = [] := List.eq_nil_of_length_eq_zero (by rw [hl]; simp)
    subst hnil
    refine wpList_append_own_none hgd s x t ho base e i size ht hi v n xs hs hown hx ?_
    exact h v w (by simpa using hown) (gRefl _ _)
  · simp only [Value.slice.injEq] at he
    obtain ⟨rfl, rfl, rfl⟩ := he
    exact wpList_append_own w hgd s x t ho base e i z size bytes ht hi hz hsize hby hzs hsz v n xs hs hown ad m c news hx hl (hnews ad c rfl) h1 h63 hbytes hbase (fun v' w' h2 h3 _ => h v' w' h2 h3)

end Go.Proofs.YtlkijbakfoabaaaDoor.Scene

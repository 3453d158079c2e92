import Derived.Test.YteclpblfleakhaaDoorPkSchedVK

namespace Go.Proofs.YteclpblfleakhaaDoor.Price
open Go.RowKit Go.Sort Go.Proofs.YteclpblfleakhaaDoor.Mem Go.Proofs.YteclpblfleakhaaDoor.Order Go.Proofs.YteclpblfleakhaaDoor.Route Go.Proofs.YteclpblfleakhaaDoor.When Go.Proofs.YteclpblfleakhaaDoor.Load Go.Proofs.YteclpblfleakhaaDoor.Feas Go.Proofs.YteclpblfleakhaaDoor.Ins Go.Proofs.YteclpblfleakhaaDoor.Cheap Go.Proofs.YteclpblfleakhaaDoor.Plan
set_option linter.unusedVariables false
def wqC (y : Int × Wy) : List Value := [.int .i64 y.1, .int .i64 y.2.i, .int .i64 y.2.j, .int .i64 y.2.n]
def flatQ (l : List (Int × Wy)) : List Value := (l.map wqC).flatten
theorem flatQ_snoc (l : List (Int × Wy)) (y : Int × Wy) : flatQ (l ++ [y]) = flatQ l ++ [.int .i64 y.1, .int .i64 y.2.i, .int .i64 y.2.j, .int .i64 y.2.n] := by simp [flatQ, wqC]
def Wqs (B : Nat) (W : World) (v : Value) (l : List (Int × Wy)) : Prop := RowB B W v 4 (l.map wqC)
theorem Wqs.of_owns {B : Nat} {W : World} {base n : Nat} {e : TypeId} {v : Value} {l : List (Int × Wy)} (h : W.ownsRow base e 4 v n (flatQ l)) (hn : n = l.length) (hB : W.heap.size ≤ B) : Wqs B W v l :=
 RowB.of_owns h (by simpa using hn) (fun r hr => by obtain ⟨s, _, rfl⟩ := List.mem_map.1 hr; rfl) hB
theorem Wqs.at {B : Nat} {W : World} {x : Option Addr} {n cap : Nat} {l : List (Int × Wy)} (h : Wqs B W (.slice x n cap) l) {k : Nat} {y : Int × Wy} (hk : l[k]? = some y) :
 ∃ g o, x = some ⟨g, o, none⟩ ∧ g < B ∧ W.cell? ⟨g, o + k * 4, none⟩ = some (.int .i64 y.1) ∧ W.cell? ⟨g, o + k * 4 + 1, none⟩ = some (.int .i64 y.2.i) ∧ W.cell? ⟨g, o + k * 4 + 2, none⟩ = some (.int .i64 y.2.j) ∧ W.cell? ⟨g, o + k * 4 + 3, none⟩ = some (.int .i64 y.2.n) := by
 obtain ⟨g, o, e, hg, hc⟩ := RowB.row h (j := k) (r := wqC y) (by rw [List.getElem?_map, hk]; rfl)
 exact ⟨g, o, e, hg, hc 0 _ rfl, hc 1 _ rfl, hc 2 _ rfl, hc 3 _ rfl⟩
theorem Wqs.keep {B C : Nat} {W W' : World} {v : Value} {l : List (Int × Wy)} (h : Wqs B W v l) (hb : Below C W W') (hB : B ≤ C) : Wqs B W' v l := RowB.keep h hb hB
theorem Wqs.opened {B : Nat} {W : World} {v : Value} {t : List (Int × Wy)} (h : Wqs B W v t) : ∃ x N cap, v = .slice x N cap ∧ t.length = N ∧ N ≤ cap ∧ cap ≤ maxLen := by
 obtain ⟨x, cap, rfl, h1, h2, h0, _⟩ := h
 exact ⟨x, t.length, cap, by simp, rfl, by simpa using h1, h2⟩
def inK (S : St) (r : Int) (k : Nat) (v : Vh) (l pre : List (Int × Int)) : List (Int × Wy) := waysA S r k ++ (waysP v l S.t r pre).map fun y => ((k : Int), y)
theorem inK_nil (S : St) (r : Int) (k : Nat) (v : Vh) (l : List (Int × Int)) : inK S r k v l [] = waysA S r k := by simp [inK, waysP]
theorem inK_all {S : St} {r : Int} {k : Nat} {v : Vh} {l : List (Int × Int)} (hv : S.vs[k]? = some v) (hl : S.rows[k]? = some l) : inK S r k v l (pairsL l.length) = waysA S r (k + 1) := by
 show _ = waysA S r k ++ waysK S r k
 rw [waysK_at hv hl]
 rfl
theorem inK_no {S : St} {r : Int} {k : Nat} {v : Vh} {l pre : List (Int × Int)} {i j : Int} (h : riseE v l S.t r i j ≠ 0) : inK S r k v l (pre ++ [(i, j)]) = inK S r k v l pre := by
 unfold inK
 rw [waysP_snoc, wayI_no (y := (i, j)) h]
 simp
theorem inK_yes {S : St} {r : Int} {k : Nat} {v : Vh} {l pre : List (Int × Int)} {i j : Int} (h : riseE v l S.t r i j = 0) : inK S r k v l (pre ++ [(i, j)]) = inK S r k v l pre ++ [((k : Int), ⟨i, j, riseV v l S.t r i j⟩)] := by
 unfold inK
 rw [waysP_snoc, wayI_yes (y := (i, j)) h]
 simp
theorem rise_no {v : Vh} {l : List (Int × Int)} {t : List Rq} {r i j : Int} (h : mayW l r i j = false) : riseE v l t r i j ≠ 0 := fun h0 => by
 have := (withE_zero (riseE_zero h0).1).2.2.2.2
 rw [h] at this
 cases this
theorem rise_ok {v : Vh} {l : List (Int × Int)} {t : List Rq} {r i j : Int} (hd : Feas.Dr v l t) (hm : mayW l r i j = true) (hr : inT t r = true) : riseE v l t r i j = 0 ↔ (faultV v (moreL l r i j) t).1 = 0 := by
 have h := mayW_iff.1 hm
 exact rise_iff (moreDr hd hm (inT_iff.1 hr).2 (by omega)) hm hr (by omega)
def encQ (y : Int × Wy) : Array Value := #[.int .i64 y.1, .int .i64 y.2.i, .int .i64 y.2.j, .int .i64 y.2.n]
def leastV (S : St) (r : Int) : Int × Wy := (leastQ (waysS S r)).getD (0, ⟨0, 0, 0⟩)
theorem leastQ_mem : ∀ {ys : List (Int × Wy)} {y : Int × Wy}, leastQ ys = some y → y ∈ ys
 | [], _, h => by cases h
 | x :: xs, y, h => by
  have key : ∀ (zs : List (Int × Wy)) (a : Int × Wy), zs.foldl lessQ a = a ∨ zs.foldl lessQ a ∈ zs := by
   intro zs
   induction zs with
   | nil => intro a; exact .inl rfl
   | cons z zs ih =>
    intro a
    show zs.foldl lessQ (lessQ a z) = a ∨ _
    rcases ih (lessQ a z) with e | e
    · rw [List.foldl_cons, e]
      unfold lessQ
      split
      · exact .inr (List.mem_cons_self ..)
      · exact .inl rfl
    · exact .inr (List.mem_cons_of_mem _ e)
  have h1 : xs.foldl lessQ x = y := Option.some.inj h
  rcases key xs x with e | e
  · rw [← h1, e]; exact List.mem_cons_self ..
  · rw [← h1]; exact List.mem_cons_of_mem _ e
theorem waysA_mem {S : St} {r : Int} {y : Int × Wy} : ∀ {k : Nat}, y ∈ waysA S r k → ∃ (i : Nat) (v : Vh) (l : List (Int × Int)), i < k ∧ y.1 = i ∧ S.vs[i]? = some v ∧ S.rows[i]? = some l ∧ y.2 ∈ waysP v l S.t r (pairsL l.length)
 | 0, h => by simp [waysA] at h
 | k + 1, h => by
  have h' : y ∈ waysA S r k ++ waysK S r k := h
  rcases List.mem_append.1 h' with h1 | h1
  · obtain ⟨i, v, l, a, b⟩ := waysA_mem h1
    exact ⟨i, v, l, by omega, b⟩
  · unfold waysK at h1
    split at h1
    · rename_i v l hv hl
      obtain ⟨z, hz, rfl⟩ := List.mem_map.1 h1
      exact ⟨k, v, l, by omega, rfl, hv, hl, hz⟩
    · simp at h1
theorem waysS_mem {S : St} {r : Int} {y : Int × Wy} (h : y ∈ waysS S r) : ∃ (i : Nat) (v : Vh) (l : List (Int × Int)), y.1 = i ∧ S.vs[i]? = some v ∧ S.rows[i]? = some l ∧ y.2 ∈ waysP v l S.t r (pairsL l.length) := by
 unfold waysS at h
 split at h
 · obtain ⟨i, v, l, -, h2⟩ := waysA_mem h
   exact ⟨i, v, l, h2⟩
 · simp at h
theorem brute_no {S : St} {r : Int} (h : leastQ (waysS S r) = none) : bruteN S r = 4294967296 := by unfold bruteN; rw [h]
theorem brute_yes {S : St} {r : Int} {y : Int × Wy} (h : leastQ (waysS S r) = some y) : bruteN S r = y.2.n := by unfold bruteN; rw [h]
theorem brute_bd {S : St} (ht : S.t.length ≤ 1000) (hn : ∀ l ∈ S.rows, Nums l) (r : Int) : 0 ≤ bruteN S r ∧ bruteN S r ≤ 4294967296 := by
 cases hl : leastQ (waysS S r) with
 | none => rw [brute_no hl]; omega
 | some y =>
  have hm := leastQ_mem hl
  constructor
  · cases hmay : mayS S
    · rw [ways_no hmay] at hm; simp at hm
    · have ho := may_ok hmay ht hn
      rw [brute_price ho r]
      have := put_tot ho r
      split <;> omega
  · rw [brute_yes hl]
    obtain ⟨i, v, l, -, -, -, hy⟩ := waysS_mem hm
    rw [(waysP_mem hy).2.2]
    have := riseV_bd v l S.t r y.2.i y.2.j
    omega
theorem put_w4 {w : World} {g : Nat} {t : TypeId} {a0 a1 a2 a3 x0 x1 x2 x3 : Value} (h : At w g t #[a0, a1, a2, a3]) :
 At ((((w.setCell ⟨g, 0, none⟩ x0).setCell ⟨g, 1, none⟩ x1).setCell ⟨g, 2, none⟩ x2).setCell ⟨g, 3, none⟩ x3) g t #[x0, x1, x2, x3] := by
 simpa using (((h.put 0 x0).put 1 x1).put 2 x2).put 3 x3
theorem ret_u64 {a b : Int} (h : a = b) : Ending.returned (.int .u64 a) = .returned (.int .u64 b) := by rw [h]
end Go.Proofs.YteclpblfleakhaaDoor.Price

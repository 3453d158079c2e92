import Derived.Test.YtfoflfeaegfnnaaPkSlackFrom
import Derived.Test.YtfoflfeaegfnnaaPkSlackMath2
import Derived.Test.YtfoflfeaegfnnaaPkSchedIn
import Derived.Test.YtfoflfeaegfnnaaPkRouteLen
import Derived.Laws.MakeOwn

/-
  The contract of package slack's latest: a row of its own that holds the latest Begins.
-/
namespace Go.Proofs.Ytfoflfeaegfnnaa.Slack
open Go.RowKit Go.Shelf Go.Proofs.Ytfoflfeaegfnnaa.Mem Go.Proofs.Ytfoflfeaegfnnaa.Route Go.Proofs.Ytfoflfeaegfnnaa.When Go.Proofs.Ytfoflfeaegfnnaa.Up Go.Proofs.Ytfoflfeaegfnnaa.Feas
set_option linter.unusedVariables false

attribute [local go_sem] Oper.semAt_some

theorem cellsOld {A A' : World} {g n : Nat} {t : TypeId} {cs : Array Value} {row : Option Nat} (h : At A g t cs) (hg : A.grownBy A' row) (hr : ∀ r, row = some r → n ≤ r ∧ ∃ o, A.heap[r]? = some o ∧ o.isCells = false) : At A' g t cs :=
  (hg.block g h.inside (fun e => by
    obtain ⟨_, o, ho, hc⟩ := hr g e.symm
    have h' : A.heap[g]? = some (.cells cs t (0, 0)) := h
    rw [h'] at ho
    cases ho
    cases hc)).trans h

theorem made_ints (N : Nat) (hN : N ≤ 1000000) : ∃ cs : Array Value, cs.size = N ∧ ∀ W, (Instr.makeSlice 50 (.int .i64 (N : Int)) (.int .i64 (N : Int))).run Try.prog W = .ok (.slice (some ⟨W.heap.size, 0, none⟩) N N) (W.alloc (.cells cs 3)) := by
  obtain ⟨i, hi, hz, hs, hb⟩ := info_parts info_int
  refine ⟨madeCells (Value.int .i64 0).cells (N * 1), by rw [size_madeCells]; omega, fun W => ?_⟩
  have h := run_makeSlice (P := Try.prog) W 50 3 i (.int .i64 0) Try.underlying50 hi hz .i64 .i64 N N (by omega) (by omega) (by rw [hs]; omega) (by rw [hb]; omega) (by omega)
  rw [hs] at h
  simpa using h

/-- What the iterator hands out: the stops, the last one first. -/
def fromL (v : Vh) (t : List Rq) (l : List (Int × Int)) : List (Nat × Vi) := (List.range l.length).reverse.map fun k => (k, visN v t l k)
theorem fromL_length (v : Vh) (t : List Rq) (l : List (Int × Int)) : (fromL v t l).length = l.length := by simp [fromL]
theorem fromL_at {v : Vh} {t : List Rq} {l : List (Int × Int)} {pre rest : List (Nat × Vi)} {y : Nat × Vi} (h : fromL v t l = pre ++ y :: rest) : y.1 + 1 + pre.length = l.length ∧ y.2 = visN v t l y.1 := by
  have h1 : (fromL v t l)[pre.length]? = some y := by rw [h]; simp
  unfold fromL at h1
  rw [List.getElem?_map] at h1
  obtain ⟨k, hk, rfl⟩ := Option.map_eq_some_iff.1 h1
  have hlt := (List.getElem?_eq_some_iff.1 hk).1
  simp at hlt
  rw [List.getElem?_reverse (by simpa using hlt)] at hk
  rw [List.length_range, List.getElem?_range (by omega)] at hk
  simp at hk
  refine ⟨?_, rfl⟩
  show k + 1 + pre.length = l.length
  omega

/-- A row of numbers in a block of its own, whose last ones are these. -/
def EndsIn (W : World) (p N : Nat) (ns : List Int) : Prop := ∃ cs : Array Value, At W p 3 cs ∧ cs.size = N ∧ ns.length ≤ N ∧ ∀ (j : Nat) (x : Int), ns[j]? = some x → cs[N - ns.length + j]? = some (.int .i64 x)
theorem EndsIn.next {W : World} {p N : Nat} {ns : List Int} (h : EndsIn W p N ns) {k : Nat} (hk : k + 1 + ns.length = N) (x : Int) : EndsIn (W.setCell ⟨p, k, none⟩ (.int .i64 x)) p N (x :: ns) := by
  obtain ⟨cs, h1, h2, h3, h4⟩ := h
  refine ⟨_, h1.put _ _, by simpa using h2, by simp; omega, fun j y hj => ?_⟩
  have e : N - (x :: ns).length + j = k + j := by simp; omega
  rw [e]
  cases j with
  | zero =>
    simp at hj
    rw [Nat.add_zero, Array.getElem?_setIfInBounds_self_of_lt (by omega), hj]
  | succ j =>
    simp at hj
    rw [Array.getElem?_setIfInBounds_ne (by omega)]
    have := h4 j y hj
    rw [show k + (j + 1) = N - ns.length + j by omega]
    exact this
/-- The whole row. -/
theorem EndsIn.whole {W : World} {p : Nat} {ns : List Int} (h : EndsIn W p ns.length ns) : At W p 3 (ns.map (Value.int .i64)).toArray := by
  obtain ⟨cs, h1, h2, _, h4⟩ := h
  have : cs = (ns.map (Value.int .i64)).toArray := by
    apply Array.ext_getElem?
    intro j
    by_cases hj : j < ns.length
    · have := h4 j _ (List.getElem?_eq_getElem hj)
      rw [Nat.sub_self, Nat.zero_add] at this
      rw [this]
      simp [hj]
    · rw [Array.getElem?_eq_none (by omega), Array.getElem?_eq_none (by simp; omega)]
  rw [← this]
  exact h1

/-- What has been reckoned when j stops have come. -/
def latK (v : Vh) (t : List Rq) (l : List (Int × Int)) (j : Nat) : List Int := latL (homeV v) v.en ((visL t l).drop (l.length - j))
theorem latK_length {v : Vh} {t : List Rq} {l : List (Int × Int)} {j : Nat} (hj : j ≤ l.length) : (latK v t l j).length = j := by
  unfold latK
  rw [latL_length]
  simp [visL]
  omega
theorem latK_zero (v : Vh) (t : List Rq) (l : List (Int × Int)) : latK v t l 0 = [] := by
  unfold latK
  rw [Nat.sub_zero, List.drop_eq_nil_of_le (by simp [visL])]
  rfl
theorem latK_all (v : Vh) (t : List Rq) (l : List (Int × Int)) : latK v t l l.length = latL (homeV v) v.en (visL t l) := by
  unfold latK
  rw [Nat.sub_self, List.drop_zero]
theorem latK_next {v : Vh} {t : List Rq} {l : List (Int × Int)} {j k : Nat} (hk : k + 1 + j = l.length) :
    latK v t l (j + 1) = min (visN v t l k).wl (hdL v.en (latK v t l j) - (visN v t l k).sv - wy (visN v t l k) (visN v t l (k + 1))) :: latK v t l j := by
  have hkl : k < (visL t l).length := by simp [visL]; omega
  unfold latK
  rw [show l.length - (j + 1) = k by omega, show l.length - j = k + 1 by omega, List.drop_eq_getElem_cons hkl, latL]
  have e1 : visN v t l k = (visL t l)[k] := by unfold visN; rw [List.getElem?_eq_getElem hkl]; rfl
  have e2 : visN v t l (k + 1) = nextV (homeV v) ((visL t l).drop (k + 1)) := by
    unfold visN
    cases hd : (visL t l).drop (k + 1) with
    | nil =>
      rw [List.getElem?_eq_none (List.drop_eq_nil_iff.1 hd)]
      rfl
    | cons z zs =>
      have : ((visL t l).drop (k + 1))[0]? = some z := by rw [hd]; rfl
      rw [List.getElem?_drop, Nat.add_zero] at this
      rw [this]
      rfl
  rw [e1, e2]

structure LatI (w : World) (q p bn bw N : Nat) (v : Vh) (vl vt : Value) (l : List (Int × Int)) (t : List Rq) (pre : List (Nat × Vi)) (W : World) : Prop where
  trip : At W q 76 (tripC v vl vt)
  row : EndsIn W p N (latK v t l pre.length)
  var : At W (p + 1) 50 #[.slice (some ⟨p, 0, none⟩) N N]
  late : At W (p + 2) 3 #[.int .i64 (hdL v.en (latK v t l pre.length))]
  hn : At W bn 3 #[.int .i64 l.length]
  hw : At W bw 99 #[whereF v vl vt]
  below : Below w.heap.size w W
theorem LatI.old {w : World} {q p bn bw N : Nat} {v : Vh} {vl vt : Value} {l : List (Int × Int)} {t : List Rq} {m : Nat} (hm : w.heap.size ≤ m) : Old m (LatI w q p bn bw N v vl vt l t) := by
  rintro pre A A' row h hg hr
  obtain ⟨cs, h1, h2⟩ := h.row
  exact ⟨cellsOld h.trip hg hr, ⟨cs, cellsOld h1 hg hr, h2⟩, cellsOld h.var hg hr, cellsOld h.late hg hr, cellsOld h.hn hg hr, cellsOld h.hw hg hr, h.below.grown hg h.below.size (fun k e => by have := (hr k e).1; omega)⟩
theorem LatI.on {w : World} {q p bn bw N : Nat} {v : Vh} {vl vt : Value} {l : List (Int × Int)} {t : List Rq} {pre : List (Nat × Vi)} {W W' : World} (h : LatI w q p bn bw N v vl vt l t pre W) (hb : Below W.heap.size W W') : LatI w q p bn bw N v vl vt l t pre W' := by
  obtain ⟨cs, h1, h2⟩ := h.row
  exact ⟨h.trip.keep hb h.trip.inside, ⟨cs, h1.keep hb h1.inside, h2⟩, h.var.keep hb h.var.inside, h.late.keep hb h.late.inside, h.hn.keep hb h.hn.inside, h.hw.keep hb h.hw.inside, h.below.trans (hb.mono h.below.size)⟩
theorem LatI.next {w : World} {q p bn bw N : Nat} {v : Vh} {vl vt : Value} {l : List (Int × Int)} {t : List Rq} {pre : List (Nat × Vi)} {y : Nat × Vi} {W : World} {k : Nat} {X : Int} (h : LatI w q p bn bw N v vl vt l t pre W) (hk : k + 1 + pre.length = l.length) (hN : l.length = N) (hp : w.heap.size ≤ p) (hq : q < p) (hn : p + 2 < bn) (hw : p + 2 < bw)
    (hX : min (visN v t l k).wl (hdL v.en (latK v t l pre.length) - (visN v t l k).sv - wy (visN v t l k) (visN v t l (k + 1))) = X) :
    LatI w q p bn bw N v vl vt l t (pre ++ [y]) ((W.setCell ⟨p + 2, 0, none⟩ (.int .i64 X)).setCell ⟨p, k, none⟩ (.int .i64 X)) := by
  have hl : latK v t l (pre ++ [y]).length = X :: latK v t l pre.length := by
    rw [List.length_append]
    show latK v t l (pre.length + 1) = _
    rw [latK_next hk, hX]
  obtain ⟨cs, h1, h2⟩ := h.row
  refine ⟨(h.trip.far (by omega) _ _).far (by omega) _ _, ?_, (h.var.far (by omega) _ _).far (by omega) _ _, ?_, (h.hn.far (by omega) _ _).far (by omega) _ _, (h.hw.far (by omega) _ _).far (by omega) _ _, (h.below.setCell (by simp; omega) _).setCell (by simp; omega) _⟩
  · rw [hl]
    exact EndsIn.next ⟨cs, h1.far (by omega) _ _, h2⟩ (by rw [latK_length (by omega)]; omega) X
  · rw [hl, hdL_head]
    have := h.late.put 0 (.int .i64 X)
    simp at this
    exact this.far (by omega) _ _

end Go.Proofs.Ytfoflfeaegfnnaa.Slack

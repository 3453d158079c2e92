/-
  A scene as an argument, opened: slices in slices, each of which may begin anywhere.
-/
import Derived.Test.YtlkijbakfoabaaaDoorDraftOpen
import Derived.Test.YtlkijbakfoabaaaDoorSceneAt
import Derived.DataReads
import Derived.ChangeOld
namespace Go.Proofs.YtlkijbakfoabaaaDoor.Scene
open Go.ChangeShapes Go.WideShapes Go.ChangeAt Go.RowKit Go.Proofs.YtlkijbakfoabaaaDoor.Mem
set_option linter.unusedVariables false

theorem exists_list {α : Type} {P : Nat → α → Prop} : ∀ {n : Nat}, (∀ i, i < n → ∃ x, P i x) → ∃ l : List α, l.length = n ∧ ∀ i x, l[i]? = some x → P i x
  | 0, _ => ⟨[], rfl, fun i x h => by simp at h⟩
  | n + 1, h => by
    obtain ⟨l, hl, hp⟩ := exists_list (n := n) (fun i hi => h i (by omega))
    obtain ⟨x, hx⟩ := h n (by omega)
    refine ⟨l ++ [x], by simp [hl], fun i y hy => ?_⟩
    rcases Nat.lt_or_ge i l.length with hi | hi
    · rw [List.getElem?_append_left hi] at hy
      exact hp i y hy
    · rw [List.getElem?_append_right hi] at hy
      have h0 : i - l.length = 0 := by have := (List.getElem?_eq_some_iff.1 hy).1; simp at this; omega
      rw [h0] at hy
      simp at hy
      subst hy
      rw [show i = n by omega]
      exact hx
theorem addAdd (g o i j : Nat) : ((⟨g, o, none⟩ : Addr).add i).add j = ⟨g, o + i + j, none⟩ := by
  have e : ∀ a b, (⟨g, a, none⟩ : Addr).add b = ⟨g, a + b, none⟩ := by
    intro a b
    unfold Addr.add
    split
    · rename_i h; rw [h]; rfl
    · rfl
  rw [e, e]

section
variable {H : Type} {enc : TypeId × Value → H} {w : World} {base : Nat} {spare : Nat → Bool} {held : Bool}

/-- A slice's rows, each of m cells that read as f gives, of things of which g holds. -/
theorem rows_of {α : Type} {t e : TypeId} {m : Nat} {f : α → List Value} {g : α → Prop} (ht : Tryd.prog.underlying t = some (.slice e)) (hc : Tryd.prog.cellsOf e = m) (hm : 0 < m)
    (hel : ∀ (n : Nat) (cs : List Value) (y : DataW H × List MemPlace), DataW.trod enc Tryd.prog w base spare held n e cs = some y → cs.length = m → ∃ x : α, cs = f x ∧ g x)
    {fuel : Nat} {v : Value} {x : DataW H × List MemPlace} (h : DataW.trod enc Tryd.prog w base spare held fuel t [v] = some x) :
    ∃ l : List α, RowB w.heap.size w v m (l.map f) ∧ ∀ y ∈ l, g y := by
  rcases DataW.trod_slice ht h with ⟨hcs, _⟩ | ⟨a, len, cap, elems, rest, n, _, hcs, _, hb, hl, hcap, hlen, hall, _, _⟩
  · simp at hcs
    exact ⟨[], ⟨none, 0, hcs, Nat.le_refl _, Nat.zero_le _, fun j r hj => by simp at hj⟩, fun y hy => by cases hy⟩
  · simp at hcs
    subst hcs
    rw [hc] at hall
    obtain ⟨l, hll, hP⟩ := exists_list (n := len) (P := fun i x => w.cells? base (a.add (i * m)) m = some (f x) ∧ g x) (fun i hi => by
      have h1 := hall i hi
      rw [List.getElem?_eq_getElem (by omega), Option.bind_eq_some_iff] at h1
      obtain ⟨cs, hcs, hy⟩ := h1
      obtain ⟨x, rfl, hg⟩ := hel n cs _ hy (World.cells?_some hcs).2.1
      exact ⟨x, hcs, hg⟩)
    refine ⟨l, ⟨some a, cap, by simp [hll], by simp [hll]; exact hl, hcap, fun j r hj => ?_⟩, fun y hy => ?_⟩
    · rw [List.getElem?_map] at hj
      obtain ⟨y, hy, rfl⟩ := Option.map_eq_some_iff.1 hj
      have h1 := (hP j y hy).1
      have h2 := World.cells?_some h1
      have hl0 : 0 < l.length := by have := (List.getElem?_eq_some_iff.1 hy).1; omega
      have h0 := World.cells?_some (hP 0 _ (List.getElem?_eq_getElem hl0)).1
      obtain ⟨b, off, spot⟩ := a
      have hspot : spot = none := by
        have hc0 : (f l[0])[0]? = some ((f l[0])[0]'(by rw [h0.2.1]; exact hm)) := List.getElem?_eq_getElem _
        have := h0.2.2 0 hm
        rw [hc0] at this
        simpa [Addr.add] using World.cell?_spot this
      subst hspot
      refine ⟨b, off, rfl, ?_, fun k u hk => ?_⟩
      · have := World.cells?_block h1 hm
        rw [show ((⟨b, off, none⟩ : Addr).add (j * m)).block = b by unfold Addr.add; split <;> rfl] at this
        exact this
      · have hkm : k < m := by rw [← h2.2.1]; exact (List.getElem?_eq_some_iff.1 hk).1
        have := h2.2.2 k hkm
        rw [hk, addAdd] at this
        exact this
    · obtain ⟨i, hi⟩ := List.getElem?_of_mem hy
      exact (hP i y hi).2

theorem list1T {α : Type} {cs : List α} (h : cs.length = 1) : ∃ a, cs = [a] := by
  match cs, h with
  | [a], _ => exact ⟨a, rfl⟩
theorem list2T {α : Type} {cs : List α} (h : cs.length = 2) : ∃ a b, cs = [a, b] := by
  match cs, h with
  | [a, b], _ => exact ⟨a, b, rfl⟩
theorem list5T {α : Type} {cs : List α} (h : cs.length = 5) : ∃ a b c d e, cs = [a, b, c, d, e] := by
  match cs, h with
  | [a, b, c, d, e], _ => exact ⟨a, b, c, d, e, rfl⟩
theorem list10T {α : Type} {cs : List α} (h : cs.length = 10) : ∃ c0 c1 c2 c3 c4 c5 c6 c7 c8 c9, cs = [c0, c1, c2, c3, c4, c5, c6, c7, c8, c9] := by
  match cs, h with
  | [c0, c1, c2, c3, c4, c5, c6, c7, c8, c9], _ => exact ⟨c0, c1, c2, c3, c4, c5, c6, c7, c8, c9, rfl⟩
theorem array7T {α : Type} {cs : Array α} (h : cs.size = 7) : ∃ c0 c1 c2 c3 c4 c5 c6, cs = #[c0, c1, c2, c3, c4, c5, c6] := by
  obtain ⟨l⟩ := cs
  match l, h with
  | [c0, c1, c2, c3, c4, c5, c6], _ => exact ⟨c0, c1, c2, c3, c4, c5, c6, rfl⟩
theorem cellsPl : Tryd.prog.cellsOf 55 = 2 := by kernel_rfl
theorem cellsWi : Tryd.prog.cellsOf 64 = 2 := by kernel_rfl
theorem cellsRq : Tryd.prog.cellsOf 66 = 10 := by kernel_rfl
theorem cellsVh : Tryd.prog.cellsOf 57 = 5 := by kernel_rfl
theorem cellsCr : Tryd.prog.cellsOf 53 = 2 := by kernel_rfl
theorem cellsLt : Tryd.prog.cellsOf 59 = 2 := by kernel_rfl
theorem cellsSv : Tryd.prog.cellsOf 51 = 1 := by kernel_rfl
theorem cellsSi : Tryd.prog.cellsOf 46 = 1 := by kernel_rfl
theorem cellsSr : Tryd.prog.cellsOf 28 = 1 := by kernel_rfl
theorem cellsSc : Tryd.prog.cellsOf 29 = 1 := by kernel_rfl
theorem cellsSl : Tryd.prog.cellsOf 30 = 1 := by kernel_rfl
theorem cellsSd : Tryd.prog.cellsOf 31 = 1 := by kernel_rfl
theorem place_T {fuel : Nat} {u v : Value} {x : DataW H × List MemPlace} (h : DataW.trod enc Tryd.prog w base spare held fuel 55 [u, v] = some x) : (∃ a, u = .int .i64 a) ∧ ∃ b, v = .int .i64 b := by
  obtain ⟨_, _, h0⟩ := fieldS (i := 0) Tryd.underlying55 h rfl
  obtain ⟨_, _, h1⟩ := fieldS (i := 1) Tryd.underlying55 h rfl
  obtain ⟨a, ha, _⟩ := i64_of (by simpa [cellsI] using h0)
  obtain ⟨b, hb, _⟩ := i64_of (by simpa [cellsI] using h1)
  exact ⟨⟨a, ha⟩, ⟨b, hb⟩⟩
theorem window_T {fuel : Nat} {u v : Value} {x : DataW H × List MemPlace} (h : DataW.trod enc Tryd.prog w base spare held fuel 64 [u, v] = some x) : (∃ a, u = .int .i64 a) ∧ ∃ b, v = .int .i64 b := by
  obtain ⟨_, _, h0⟩ := fieldS (i := 0) Tryd.underlying64 h rfl
  obtain ⟨_, _, h1⟩ := fieldS (i := 1) Tryd.underlying64 h rfl
  obtain ⟨a, ha, _⟩ := i64_of (by simpa [cellsI] using h0)
  obtain ⟨b, hb, _⟩ := i64_of (by simpa [cellsI] using h1)
  exact ⟨⟨a, ha⟩, ⟨b, hb⟩⟩
theorem request_T (n : Nat) (cs : List Value) (y : DataW H × List MemPlace) (hf : DataW.trod enc Tryd.prog w base spare held n 66 cs = some y) (hl : cs.length = 10) : ∃ q : Rq, cs = rqV q ∧ True := by
  obtain ⟨c0, c1, c2, c3, c4, c5, c6, c7, c8, c9, rfl⟩ := list10T hl
  obtain ⟨_, _, h0⟩ := fieldS (i := 0) Tryd.underlying66 hf rfl
  obtain ⟨_, _, h1⟩ := fieldS (i := 1) Tryd.underlying66 hf rfl
  obtain ⟨_, _, h2⟩ := fieldS (i := 2) Tryd.underlying66 hf rfl
  obtain ⟨_, _, h3⟩ := fieldS (i := 3) Tryd.underlying66 hf rfl
  obtain ⟨_, _, h4⟩ := fieldS (i := 4) Tryd.underlying66 hf rfl
  obtain ⟨_, _, h5⟩ := fieldS (i := 5) Tryd.underlying66 hf rfl
  simp [cellsI, cellsPl, cellsWi] at h0 h1 h2 h3 h4 h5
  obtain ⟨⟨fx, rfl⟩, ⟨fy, rfl⟩⟩ := place_T h0
  obtain ⟨⟨tx, rfl⟩, ⟨ty, rfl⟩⟩ := place_T h1
  obtain ⟨⟨pe, rfl⟩, ⟨pl, rfl⟩⟩ := window_T h2
  obtain ⟨⟨de, rfl⟩, ⟨dl, rfl⟩⟩ := window_T h3
  obtain ⟨ld, rfl, _⟩ := i64_of h4
  obtain ⟨sv, rfl, _⟩ := i64_of h5
  exact ⟨⟨fx, fy, tx, ty, pe, pl, de, dl, ld, sv⟩, rfl, trivial⟩
theorem vehicle_T (n : Nat) (cs : List Value) (y : DataW H × List MemPlace) (hf : DataW.trod enc Tryd.prog w base spare held n 57 cs = some y) (hl : cs.length = 5) : ∃ q : Vh, cs = vhV q ∧ True := by
  obtain ⟨c0, c1, c2, c3, c4, rfl⟩ := list5T hl
  obtain ⟨_, _, h0⟩ := fieldS (i := 0) Tryd.underlying57 hf rfl
  obtain ⟨_, _, h1⟩ := fieldS (i := 1) Tryd.underlying57 hf rfl
  obtain ⟨_, _, h2⟩ := fieldS (i := 2) Tryd.underlying57 hf rfl
  obtain ⟨_, _, h3⟩ := fieldS (i := 3) Tryd.underlying57 hf rfl
  simp [cellsI, cellsPl] at h0 h1 h2 h3
  obtain ⟨⟨hx, rfl⟩, ⟨hy, rfl⟩⟩ := place_T h0
  obtain ⟨cp, rfl, _⟩ := i64_of h1
  obtain ⟨s0, rfl, _⟩ := i64_of h2
  obtain ⟨en, rfl, _⟩ := i64_of h3
  exact ⟨⟨hx, hy, cp, s0, en⟩, rfl, trivial⟩
theorem lot_T (n : Nat) (cs : List Value) (y : DataW H × List MemPlace) (hf : DataW.trod enc Tryd.prog w base spare held n 59 cs = some y) (hl : cs.length = 2) : ∃ q : Lt, cs = ltV q ∧ I64 q.req := by
  obtain ⟨c0, c1, rfl⟩ := list2T hl
  obtain ⟨_, _, h0⟩ := fieldS (i := 0) Tryd.underlying59 hf rfl
  obtain ⟨_, _, h1⟩ := fieldS (i := 1) Tryd.underlying59 hf rfl
  simp [cellsI] at h0 h1
  obtain ⟨a, rfl, ha⟩ := i64_of h0
  obtain ⟨b, rfl, _⟩ := i64_of h1
  have hI : I64 a := ⟨by omega, by omega⟩
  exact ⟨⟨a, b⟩, rfl, hI⟩
theorem int_T (n : Nat) (cs : List Value) (y : DataW H × List MemPlace) (hf : DataW.trod enc Tryd.prog w base spare held n 3 cs = some y) (hl : cs.length = 1) : ∃ q : Int, cs = inV q ∧ I64 q := by
  obtain ⟨c0, rfl⟩ := list1T hl
  obtain ⟨a, rfl, ha⟩ := i64_of hf
  exact ⟨a, rfl, ⟨by omega, by omega⟩⟩
theorem carrier_T (n : Nat) (cs : List Value) (y : DataW H × List MemPlace) (hf : DataW.trod enc Tryd.prog w base spare held n 53 cs = some y) (hl : cs.length = 2) :
    ∃ q : (Value × Value) × Cr, cs = [q.1.1, q.1.2] ∧ CarAt w.heap.size w q.1 q.2 ∧ ∀ r ∈ q.2.own, I64 r := by
  obtain ⟨c0, c1, rfl⟩ := list2T hl
  obtain ⟨_, _, h0⟩ := fieldS (i := 0) Tryd.underlying53 hf rfl
  obtain ⟨_, _, h1⟩ := fieldS (i := 1) Tryd.underlying53 hf rfl
  simp [cellsSv, cellsSi] at h0 h1
  obtain ⟨fl, hfl, _⟩ := rows_of (f := vhV) Tryd.underlying51 cellsVh (by decide) vehicle_T h0
  obtain ⟨ow, how, hI⟩ := rows_of (f := inV) Tryd.underlying46 cellsI (by decide) int_T h1
  exact ⟨((c0, c1), ⟨fl, ow⟩), rfl, ⟨hfl, how⟩, hI⟩
set_option maxRecDepth 100000 in
theorem openTurn {r : Reach} {b0 : Nat} {v : Value} {d : DataW H} {p : List MemPlace} (hv : Value.okWide Tryd.prog w r b0 27 v) (h : DataW.Trod enc Tryd.prog w base spare held 27 v d p) :
    ∃ wh ax N : Int, v = .agg #[.int .u8 wh, .int .u8 ax, .int .i64 N] ∧ (0 ≤ wh ∧ wh < 256) ∧ (0 ≤ ax ∧ ax < 256) ∧ -9223372036854775808 ≤ N ∧ N ≤ 9223372036854775807 := by
  obtain ⟨cs, rfl, hsz⟩ := okWide_struct Tryd.underlying27 hv
  obtain ⟨c0, c1, c2, rfl⟩ := array3D (hsz.trans (by kernel_rfl))
  obtain ⟨fuel, hf⟩ := h
  obtain ⟨_, _, h0⟩ := fieldS (i := 0) Tryd.underlying27 hf rfl
  obtain ⟨_, _, h1⟩ := fieldS (i := 1) Tryd.underlying27 hf rfl
  obtain ⟨_, _, h2⟩ := fieldS (i := 2) Tryd.underlying27 hf rfl
  simp [Value.cells, cellsI, cellsU8] at h0 h1 h2
  obtain ⟨wh, rfl, hw⟩ := u8_of h0
  obtain ⟨ax, rfl, hx⟩ := u8_of h1
  obtain ⟨N, rfl, hN⟩ := i64_of h2
  exact ⟨wh, ax, N, rfl, hw, hx, hN⟩
set_option maxRecDepth 100000 in
theorem openScene {r : Reach} {b0 : Nat} {v : Value} {d : DataW H} {p : List MemPlace} (hv : Value.okWide Tryd.prog w r b0 33 v) (h : DataW.Trod enc Tryd.prog w base spare held 33 v d p) :
    ∃ vR vC vL vD us s, v = .agg #[vR, vC, vL, .int .i64 s.cm, .int .i64 s.rv, .int .i64 s.sch, vD] ∧ SceneAt w.heap.size w vR vC vL vD us s ∧ (∀ c ∈ s.cars, ∀ r ∈ c.own, I64 r) ∧ ∀ l ∈ s.lots, I64 l.req := by
  obtain ⟨cs, rfl, hsz⟩ := okWide_struct Tryd.underlying33 hv
  obtain ⟨c0, c1, c2, c3, c4, c5, c6, rfl⟩ := array7T (hsz.trans (by kernel_rfl))
  obtain ⟨fuel, hf⟩ := h
  obtain ⟨_, _, h0⟩ := fieldS (i := 0) Tryd.underlying33 hf rfl
  obtain ⟨_, _, h1⟩ := fieldS (i := 1) Tryd.underlying33 hf rfl
  obtain ⟨_, _, h2⟩ := fieldS (i := 2) Tryd.underlying33 hf rfl
  obtain ⟨_, _, h3⟩ := fieldS (i := 3) Tryd.underlying33 hf rfl
  obtain ⟨_, _, h4⟩ := fieldS (i := 4) Tryd.underlying33 hf rfl
  obtain ⟨_, _, h5⟩ := fieldS (i := 5) Tryd.underlying33 hf rfl
  obtain ⟨_, _, h6⟩ := fieldS (i := 6) Tryd.underlying33 hf rfl
  simp [Value.cells, cellsI, cellsSr, cellsSc, cellsSl, cellsSd] at h0 h1 h2 h3 h4 h5 h6
  obtain ⟨rq, hrq, _⟩ := rows_of (f := rqV) Tryd.underlying28 cellsRq (by decide) request_T h0
  obtain ⟨cr, hcr, hcg⟩ := rows_of (f := fun q : (Value × Value) × Cr => [q.1.1, q.1.2]) Tryd.underlying29 cellsCr (by decide) carrier_T h1
  obtain ⟨lt, hlt, hlg⟩ := rows_of (f := ltV) Tryd.underlying30 cellsLt (by decide) lot_T h2
  obtain ⟨cm, rfl, _⟩ := i64_of h3
  obtain ⟨rv, rfl, _⟩ := i64_of h4
  obtain ⟨sch, rfl, _⟩ := i64_of h5
  have hd : ∃ x n cap, c6 = .slice x n cap ∧ n ≤ cap ∧ cap ≤ maxLen := by
    rcases DataW.trod_slice Tryd.underlying31 h6 with ⟨hcs, _⟩ | ⟨a, len, cap, _, _, _, _, hcs, _, _, hl, hcap, _⟩
    · simp at hcs
      exact ⟨none, 0, 0, hcs, Nat.le_refl _, Nat.zero_le _⟩
    · simp at hcs
      exact ⟨some a, len, cap, hcs, hl, hcap⟩
  obtain ⟨x, nd, cap, rfl, hd1, hd2⟩ := hd
  refine ⟨c0, c1, c2, _, cr.map (·.1), ⟨rq, cr.map (·.2), lt, cm, rv, sch, nd⟩, rfl, ⟨hrq, ⟨by simp, by rw [List.map_map]; exact hcr, fun j u c hu hc => ?_⟩, hlt, ⟨x, cap, rfl, hd1, hd2⟩⟩, fun c hc => ?_, hlg⟩
  · rw [List.getElem?_map] at hu
    have hc' : (cr.map (·.2))[j]? = some c := hc
    rw [List.getElem?_map] at hc'
    obtain ⟨q, hq, rfl⟩ := Option.map_eq_some_iff.1 hu
    obtain ⟨q', hq', rfl⟩ := Option.map_eq_some_iff.1 hc'
    rw [hq] at hq'
    cases hq'
    exact (hcg q (List.mem_of_getElem? hq)).1
  · obtain ⟨q, hq, rfl⟩ := List.mem_map.1 hc
    exact (hcg q hq).2
end
end Go.Proofs.YtlkijbakfoabaaaDoor.Scene

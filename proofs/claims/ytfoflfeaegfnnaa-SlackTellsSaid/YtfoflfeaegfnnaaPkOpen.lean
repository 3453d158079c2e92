import Derived.Test.YtfoflfeaegfnnaaPkClose
import Derived.Lib.SmallJoins
import Derived.Test.YtfoflfeaegfnnaaPkWhenDraft
import Derived.Test.YtfoflfeaegfnnaaPkRouteLen
import Derived.ChangeSlices
import Derived.ChangeArms
import Derived.DataReads
import Derived.ChangeOld
import Derived.Test.YtfoflfeaegfnnaaPkSlackParts

/-
  Arguments that are arrays of numbers, opened.
-/
namespace Go.Proofs.Ytfoflfeaegfnnaa.Close
open Go.ChangeShapes Go.WideShapes Go.ChangeAt Go.RowKit

section
variable {H : Type} {enc : TypeId × Value → H} {P : Program} {w : World} {base : Nat} {spare : Nat → Bool} {held : Bool}

/-- An array of n numbers, by value. -/
theorem open_numbers {r : Reach} {b0 : Nat} {t e : TypeId} {n : Nat} {k : IntKind} {v : Value} {d : DataW H} {p : List MemPlace} (ht : P.underlying t = some (.array n e)) (he : P.underlying e = some (.int k))
    (hc : P.cellsOf e = 1) (hct : P.cellsOf t = n) (hv : Value.okWide P w r b0 t v) (h : DataW.Trod enc P w base spare held t v d p) :
    ∃ xs : List Int, xs.length = n ∧ v = .agg (xs.map (Value.int k)).toArray ∧ ∀ x ∈ xs, (Lit.int k x).wf = true := by
  simp only [Value.okWide, ht] at hv
  obtain ⟨cs, rfl, hsz, _⟩ := hv
  obtain ⟨fuel, hf⟩ := h
  obtain ⟨ys, m, _, _, _, hlen, hel⟩ := DataW.trod_array ht hf
  simp only [hc, Nat.mul_one] at hel
  have hcs : (Value.agg cs).cells.toList = cs.toList := rfl
  rw [hct] at hsz
  have hone : ∀ i (hi : i < n), ∃ x : Int, cs.toList[i]? = some (.int k x) ∧ (Lit.int k x).wf = true := by
    intro i hi
    have h1 := hel i hi
    have hi' : i < cs.toList.length := by simpa [hsz] using hi
    have hdrop : (cs.toList.drop i).take 1 = [cs.toList[i]] := by
      rw [List.drop_eq_getElem_cons hi']
      rfl
    rw [show ((Value.agg cs).cells.toList.drop i).take 1 = [cs.toList[i]] from hdrop] at h1
    rw [List.getElem?_eq_getElem (by omega)] at h1
    obtain ⟨x, hx, _, hw⟩ := DataW.trod_int he h1
    refine ⟨x, ?_, hw⟩
    rw [List.getElem?_eq_getElem hi']
    simpa using hx
  have hall : ∀ l : List Value, (∀ v ∈ l, ∃ x : Int, v = .int k x ∧ (Lit.int k x).wf = true) → ∃ xs : List Int, l = xs.map (Value.int k) ∧ ∀ x ∈ xs, (Lit.int k x).wf = true := by
    intro l
    induction l with
    | nil => exact fun _ => ⟨[], rfl, fun x hx => by cases hx⟩
    | cons v l ih =>
      intro hl
      obtain ⟨x, rfl, hw⟩ := hl v (List.mem_cons_self ..)
      obtain ⟨xs, rfl, hws⟩ := ih (fun u hu => hl u (List.mem_cons_of_mem _ hu))
      exact ⟨x :: xs, rfl, fun y hy => by
        rcases List.mem_cons.1 hy with rfl | hy
        · exact hw
        · exact hws y hy⟩
  obtain ⟨xs, hxs, hws⟩ := hall cs.toList (fun v hv => by
    obtain ⟨i, hi, rfl⟩ := List.getElem_of_mem hv
    obtain ⟨x, hx, hw⟩ := hone i (by simpa [hsz] using hi)
    rw [List.getElem?_eq_getElem hi] at hx
    exact ⟨x, Option.some.inj hx, hw⟩)
  refine ⟨xs, ?_, ?_, hws⟩
  · have := congrArg List.length hxs
    simp [hsz] at this
    exact this.symm
  · have : cs = (xs.map (Value.int k)).toArray := by rw [← hxs]
    rw [this]

end
end Go.Proofs.Ytfoflfeaegfnnaa.Close

/-
  A draft, stops and requests as arguments, opened.
-/
namespace Go.Proofs.Ytfoflfeaegfnnaa.When
open Go.ChangeShapes Go.WideShapes Go.ChangeAt Go.RowKit Go.Proofs.Ytfoflfeaegfnnaa.Mem Go.Proofs.Ytfoflfeaegfnnaa.Route
set_option linter.unusedVariables false

theorem wf_ends {x : Int} (h : (Lit.int .i64 x).wf = true) : -9223372036854775808 ≤ x ∧ x ≤ 9223372036854775807 := by
  simp [Lit.wf, IntKind.min, IntKind.max, IntKind.bits, IntKind.signed] at h
  omega
theorem u8_ends {x : Int} (h : (Lit.int .u8 x).wf = true) : 0 ≤ x ∧ x ≤ 255 := by
  simp [Lit.wf, IntKind.min, IntKind.max, IntKind.bits, IntKind.signed] at h
  omega
theorem exists_list {α : Type} {P : Nat → α → Prop} : ∀ {n : Nat}, (∀ i, i < n → ∃ x, P i x) → ∃ l : List α, l.length = n ∧ ∀ i x, l[i]? = some x → P i x
  | 0, _ => ⟨[], rfl, fun i x h => by simp at h⟩
  | n + 1, h => by
    obtain ⟨l, hl, hp⟩ := exists_list (n := n) (fun i hi => h i (by omega))
    obtain ⟨x, hx⟩ := h n (by omega)
    refine ⟨l ++ [x], by simp [hl], fun i y hy => ?_⟩
    rcases Nat.lt_or_ge i l.length with hi | hi
    · rw [List.getElem?_append_left hi] at hy
      exact hp i y hy
    · rw [List.getElem?_append_right hi] at hy
      have h0 : i - l.length = 0 := by have := (List.getElem?_eq_some_iff.1 hy).1; simp at this; omega
      rw [h0] at hy
      simp at hy
      subst hy
      rw [show i = n by omega]
      exact hx
theorem addAdd (g o i j : Nat) : ((⟨g, o, none⟩ : Addr).add i).add j = ⟨g, o + i + j, none⟩ := by rw [add_at, add_at]

section
variable {H : Type} {enc : TypeId × Value → H} {w : World} {base : Nat} {spare : Nat → Bool} {held : Bool}

/-- A slice's rows, each of m cells that read as f gives, of things of which g holds. -/
theorem rows_of {α : Type} {t e : TypeId} {m : Nat} {f : α → List Value} {g : α → Prop} (ht : Try.prog.underlying t = some (.slice e)) (hc : Try.prog.cellsOf e = m) (hm : 0 < m)
    (hel : ∀ (n : Nat) (cs : List Value) (y : DataW H × List MemPlace), DataW.trod enc Try.prog w base spare held n e cs = some y → cs.length = m → ∃ x : α, cs = f x ∧ g x)
    {fuel : Nat} {v : Value} {x : DataW H × List MemPlace} (h : DataW.trod enc Try.prog w base spare held fuel t [v] = some x) :
    ∃ l : List α, RowB w.heap.size w v m (l.map f) ∧ ∀ y ∈ l, g y := by
  rcases DataW.trod_slice ht h with ⟨hcs, _⟩ | ⟨a, len, cap, elems, rest, n, _, hcs, _, hb, hl, hcap, hlen, hall, _, _⟩
  · simp at hcs
    exact ⟨[], ⟨none, 0, hcs, Nat.le_refl _, Nat.zero_le _, fun _ => ⟨rfl, rfl⟩, fun j r hj => by simp at hj⟩, fun y hy => by cases hy⟩
  · simp at hcs
    subst hcs
    rw [hc] at hall
    obtain ⟨l, hll, hP⟩ := exists_list (n := len) (P := fun i x => w.cells? base (a.add (i * m)) m = some (f x) ∧ g x) (fun i hi => by
      have h1 := hall i hi
      rw [List.getElem?_eq_getElem (by omega), Option.bind_eq_some_iff] at h1
      obtain ⟨cs, hcs, hy⟩ := h1
      obtain ⟨x, rfl, hg⟩ := hel n cs _ hy (World.cells?_some hcs).2.1
      exact ⟨x, hcs, hg⟩)
    refine ⟨l, ⟨some a, cap, by simp [hll], by simp [hll]; exact hl, hcap, fun e => (by cases e), fun j r hj => ?_⟩, fun y hy => ?_⟩
    · rw [List.getElem?_map] at hj
      obtain ⟨y, hy, rfl⟩ := Option.map_eq_some_iff.1 hj
      have hl0 : 0 < l.length := by have := (List.getElem?_eq_some_iff.1 hy).1; omega
      have h1 := (hP j y hy).1
      have h2 := World.cells?_some h1
      have h0 := World.cells?_some (hP 0 _ (List.getElem?_eq_getElem hl0)).1
      obtain ⟨b, off, spot⟩ := a
      have hspot : spot = none := by
        have hc0 : (f l[0])[0]? = some ((f l[0])[0]'(by rw [h0.2.1]; exact hm)) := List.getElem?_eq_getElem _
        have := h0.2.2 0 hm
        rw [hc0] at this
        simpa [Addr.add] using World.cell?_spot this
      subst hspot
      refine ⟨b, off, rfl, ?_, fun k u hk => ?_⟩
      · have := World.cells?_block h1 hm
        rw [show ((⟨b, off, none⟩ : Addr).add (j * m)).block = b by unfold Addr.add; split <;> rfl] at this
        exact this
      · have hkm : k < m := by rw [← h2.2.1]; exact (List.getElem?_eq_some_iff.1 hk).1
        have := h2.2.2 k hkm
        rw [hk, addAdd] at this
        exact this
    · obtain ⟨i, hi⟩ := List.getElem?_of_mem hy
      exact (hP i y hi).2
theorem list1T {α : Type} {cs : List α} (h : cs.length = 1) : ∃ a, cs = [a] := by
  match cs, h with
  | [a], _ => exact ⟨a, rfl⟩
theorem list2T {α : Type} {cs : List α} (h : cs.length = 2) : ∃ a b, cs = [a, b] := by
  match cs, h with
  | [a, b], _ => exact ⟨a, b, rfl⟩
theorem fieldS {P : Program} {t : TypeId} {fs : Array Field} {fuel : Nat} {cs : List Value} {x : DataW H × List MemPlace} (ht : P.underlying t = some (.struct fs)) (h : DataW.trod enc P w base spare held fuel t cs = some x) {i : Nat} {f : Field} (hf : fs[i]? = some f) :
    ∃ n y, DataW.trod enc P w base spare held n f.type ((cs.drop f.offset).take (P.cellsOf f.type)) = some y := by
  obtain ⟨xs, n, _, _, _, hlen, hall⟩ := DataW.trod_struct ht h
  have h1 := hall i f hf
  have hi : i < fs.size := (Array.getElem?_eq_some_iff.1 hf).1
  rw [List.getElem?_eq_getElem (by omega)] at h1
  exact ⟨n, _, h1⟩
theorem cellsU8 : Try.prog.cellsOf 5 = 1 := by kernel_rfl
theorem cellsI : Try.prog.cellsOf 3 = 1 := by kernel_rfl
theorem cellsSt : Try.prog.cellsOf 58 = 2 := by kernel_rfl
theorem u8_of {fuel : Nat} {v : Value} {x : DataW H × List MemPlace} (h : DataW.trod enc Try.prog w base spare held fuel 5 [v] = some x) : ∃ n : Int, v = .int .u8 n ∧ 0 ≤ n ∧ n < 256 := by
  obtain ⟨n, hn, _, hw⟩ := DataW.trod_int Try.underlying5 h
  simp at hn
  have := u8_ends hw
  exact ⟨n, hn, by omega, by omega⟩
theorem i64_of {fuel : Nat} {v : Value} {x : DataW H × List MemPlace} (h : DataW.trod enc Try.prog w base spare held fuel 3 [v] = some x) : ∃ n : Int, v = .int .i64 n ∧ I64 n := by
  obtain ⟨n, hn, _, hw⟩ := DataW.trod_int Try.underlying3 h
  simp at hn
  exact ⟨n, hn, wf_ends hw⟩
set_option maxRecDepth 100000 in
/-- Bytes, in a row. -/
theorem openBytes {r : Reach} {b0 : Nat} {v : Value} {d : DataW H} {p : List MemPlace} (hv : Value.okWide Try.prog w r b0 23 v) (h : DataW.Trod enc Try.prog w base spare held 23 v d p) :
    ∃ bs : List Int, RowB w.heap.size w v 1 (bs.map byV) ∧ ∀ x ∈ bs, 0 ≤ x ∧ x < 256 := by
  obtain ⟨a, len, cap, rfl⟩ := okWide_slice Try.underlying23 hv
  obtain ⟨fuel, hf⟩ := h
  exact rows_of (f := byV) (g := fun x => 0 ≤ x ∧ x < 256) Try.underlying23 cellsU8 (by decide) (fun n cs y hy hl => by
    obtain ⟨a, rfl⟩ := list1T hl
    obtain ⟨n, rfl, hn⟩ := u8_of hy
    exact ⟨n, rfl, hn⟩) hf
set_option maxRecDepth 100000 in
/-- Stops, in a row. -/
theorem openStops {r : Reach} {b0 : Nat} {v : Value} {d : DataW H} {p : List MemPlace} (hv : Value.okWide Try.prog w r b0 27 v) (h : DataW.Trod enc Try.prog w base spare held 27 v d p) :
    ∃ l : List (Int × Int), Row w.heap.size w v l ∧ Nums l := by
  obtain ⟨a, len, cap, rfl⟩ := okWide_slice Try.underlying27 hv
  obtain ⟨fuel, hf⟩ := h
  exact rows_of (f := stV) (g := fun s => I64 s.1 ∧ I64 s.2) Try.underlying27 cellsSt (by decide) (fun n cs y hy hl => by
    obtain ⟨a, b, rfl⟩ := list2T hl
    obtain ⟨_, _, h0⟩ := fieldS (i := 0) Try.underlying58 hy rfl
    obtain ⟨_, _, h1⟩ := fieldS (i := 1) Try.underlying58 hy rfl
    obtain ⟨x, rfl, hx⟩ := i64_of (by simpa [cellsI] using h0)
    obtain ⟨z, rfl, hz⟩ := i64_of (by simpa [cellsI] using h1)
    exact ⟨(x, z), rfl, hx, hz⟩) hf

theorem list10T {α : Type} {cs : List α} (h : cs.length = 10) : ∃ a0 a1 a2 a3 a4 a5 a6 a7 a8 a9, cs = [a0, a1, a2, a3, a4, a5, a6, a7, a8, a9] := by
  match cs, h with
  | [a0, a1, a2, a3, a4, a5, a6, a7, a8, a9], _ => exact ⟨a0, a1, a2, a3, a4, a5, a6, a7, a8, a9, rfl⟩
theorem array4D {α : Type} {cs : Array α} (h : cs.size = 4) : ∃ c0 c1 c2 c3, cs = #[c0, c1, c2, c3] := by
  obtain ⟨l⟩ := cs
  match l, h with
  | [c0, c1, c2, c3], _ => exact ⟨c0, c1, c2, c3, rfl⟩
theorem array3D {α : Type} {cs : Array α} (h : cs.size = 3) : ∃ c0 c1 c2, cs = #[c0, c1, c2] := by
  obtain ⟨l⟩ := cs
  match l, h with
  | [c0, c1, c2], _ => exact ⟨c0, c1, c2, rfl⟩
theorem elemA {P : Program} {t e : TypeId} {m fuel : Nat} {cs : List Value} {x : DataW H × List MemPlace} (ht : P.underlying t = some (.array m e)) (h : DataW.trod enc P w base spare held fuel t cs = some x) {i : Nat} (hi : i < m) :
    ∃ n y, DataW.trod enc P w base spare held n e ((cs.drop (i * P.cellsOf e)).take (P.cellsOf e)) = some y := by
  obtain ⟨ys, n, _, _, _, hlen, hel⟩ := DataW.trod_array ht h
  have h1 := hel i hi
  rw [List.getElem?_eq_getElem (by omega)] at h1
  exact ⟨n, _, h1⟩
theorem cellsPl : Try.prog.cellsOf 29 = 2 := by kernel_rfl
theorem cellsWi : Try.prog.cellsOf 39 = 2 := by kernel_rfl
theorem cellsRq : Try.prog.cellsOf 41 = 10 := by kernel_rfl
theorem cellsS8 : Try.prog.cellsOf 23 = 1 := by kernel_rfl
theorem two_of {fuel : Nat} {T : TypeId} {fs : Array Field} {a b : Value} {x : DataW H × List MemPlace} (hT : Try.prog.underlying T = some (.struct fs)) (hf0 : ∃ f, fs[0]? = some f ∧ f.type = 3 ∧ f.offset = 0) (hf1 : ∃ f, fs[1]? = some f ∧ f.type = 3 ∧ f.offset = 1)
    (h : DataW.trod enc Try.prog w base spare held fuel T [a, b] = some x) : (∃ n : Int, a = .int .i64 n ∧ I64 n) ∧ ∃ n : Int, b = .int .i64 n ∧ I64 n := by
  obtain ⟨f0, e0, t0, o0⟩ := hf0
  obtain ⟨f1, e1, t1, o1⟩ := hf1
  obtain ⟨_, _, h0⟩ := fieldS hT h e0
  obtain ⟨_, _, h1⟩ := fieldS hT h e1
  rw [t0, o0] at h0
  rw [t1, o1] at h1
  exact ⟨i64_of (by simpa [cellsI] using h0), i64_of (by simpa [cellsI] using h1)⟩
set_option maxRecDepth 100000 in
/-- Requests, in a row. -/
theorem openRqs {r : Reach} {b0 : Nat} {v : Value} {d : DataW H} {p : List MemPlace} (hv : Value.okWide Try.prog w r b0 35 v) (h : DataW.Trod enc Try.prog w base spare held 35 v d p) :
    ∃ l : List Rq, Rqs w.heap.size w v l := by
  obtain ⟨a, len, cap, rfl⟩ := okWide_slice Try.underlying35 hv
  obtain ⟨fuel, hf⟩ := h
  obtain ⟨l, hl, _⟩ := rows_of (f := rqV) (g := fun _ => True) Try.underlying35 cellsRq (by decide) (fun n cs y hy hl => by
    obtain ⟨a0, a1, a2, a3, a4, a5, a6, a7, a8, a9, rfl⟩ := list10T hl
    obtain ⟨_, _, h0⟩ := fieldS (i := 0) Try.underlying41 hy rfl
    obtain ⟨_, _, h1⟩ := fieldS (i := 1) Try.underlying41 hy rfl
    obtain ⟨_, _, h2⟩ := fieldS (i := 2) Try.underlying41 hy rfl
    obtain ⟨_, _, h3⟩ := fieldS (i := 3) Try.underlying41 hy rfl
    obtain ⟨_, _, h4⟩ := fieldS (i := 4) Try.underlying41 hy rfl
    obtain ⟨_, _, h5⟩ := fieldS (i := 5) Try.underlying41 hy rfl
    simp [cellsI, cellsPl, cellsWi] at h0 h1 h2 h3 h4 h5
    obtain ⟨⟨x0, rfl, _⟩, ⟨x1, rfl, _⟩⟩ := two_of Try.underlying29 ⟨_, rfl, rfl, rfl⟩ ⟨_, rfl, rfl, rfl⟩ h0
    obtain ⟨⟨x2, rfl, _⟩, ⟨x3, rfl, _⟩⟩ := two_of Try.underlying29 ⟨_, rfl, rfl, rfl⟩ ⟨_, rfl, rfl, rfl⟩ h1
    obtain ⟨⟨x4, rfl, _⟩, ⟨x5, rfl, _⟩⟩ := two_of Try.underlying39 ⟨_, rfl, rfl, rfl⟩ ⟨_, rfl, rfl, rfl⟩ h2
    obtain ⟨⟨x6, rfl, _⟩, ⟨x7, rfl, _⟩⟩ := two_of Try.underlying39 ⟨_, rfl, rfl, rfl⟩ ⟨_, rfl, rfl, rfl⟩ h3
    obtain ⟨x8, rfl, _⟩ := i64_of h4
    obtain ⟨x9, rfl, _⟩ := i64_of h5
    exact ⟨⟨x0, x1, x2, x3, x4, x5, x6, x7, x8, x9⟩, rfl, trivial⟩) hf
  exact ⟨l, hl⟩
end
end Go.Proofs.Ytfoflfeaegfnnaa.When

/-
  The arguments of slack's laws, opened: a draft, stops with a vehicle, two numbers.
-/
namespace Go.Proofs.Ytfoflfeaegfnnaa.Slack
open Go.ChangeShapes Go.WideShapes Go.ChangeAt Go.RowKit Go.Proofs.Ytfoflfeaegfnnaa.Mem Go.Proofs.Ytfoflfeaegfnnaa.Route Go.Proofs.Ytfoflfeaegfnnaa.When
set_option linter.unusedVariables false

theorem u16_ends {x : Int} (h : (Lit.int .u16 x).wf = true) : 0 ≤ x ∧ x < 65536 := by
  simp [Lit.wf, IntKind.min, IntKind.max, IntKind.bits, IntKind.signed] at h
  omega
theorem list6T {α : Type} {cs : List α} (h : cs.length = 6) : ∃ a0 a1 a2 a3 a4 a5, cs = [a0, a1, a2, a3, a4, a5] := by
  match cs, h with
  | [a0, a1, a2, a3, a4, a5], _ => exact ⟨a0, a1, a2, a3, a4, a5, rfl⟩
theorem array6D {α : Type} {cs : Array α} (h : cs.size = 6) : ∃ c0 c1 c2 c3 c4 c5, cs = #[c0, c1, c2, c3, c4, c5] := by
  obtain ⟨l⟩ := cs
  obtain ⟨a0, a1, a2, a3, a4, a5, rfl⟩ := list6T (show l.length = 6 from h)
  exact ⟨a0, a1, a2, a3, a4, a5, rfl⟩
theorem array2D {α : Type} {cs : Array α} (h : cs.size = 2) : ∃ c0 c1, cs = #[c0, c1] := by
  obtain ⟨l⟩ := cs
  obtain ⟨a0, a1, rfl⟩ := list2T (show l.length = 2 from h)
  exact ⟨a0, a1, rfl⟩
theorem cellsS6 : Try.prog.cellsOf 62 = 6 := by kernel_rfl
theorem cellsR6 : Try.prog.cellsOf 22 = 1 := by kernel_rfl
theorem cellsU16 : Try.prog.cellsOf 24 = 1 := by kernel_rfl
theorem cellsSts : Try.prog.cellsOf 27 = 1 := by kernel_rfl
theorem cellsVeh : Try.prog.cellsOf 31 = 5 := by kernel_rfl

section
variable {H : Type} {enc : TypeId × Value → H} {w : World} {base : Nat} {spare : Nat → Bool} {held : Bool}
theorem u16_of {fuel : Nat} {v : Value} {x : DataW H × List MemPlace} (h : DataW.trod enc Try.prog w base spare held fuel 24 [v] = some x) : ∃ n : Int, v = .int .u16 n ∧ 0 ≤ n ∧ n < 65536 := by
  obtain ⟨n, hn, _, hw⟩ := DataW.trod_int Try.underlying24 h
  simp at hn
  exact ⟨n, hn, u16_ends hw⟩
theorem veh_of {fuel : Nat} {c0 c1 c2 c3 c4 : Value} {x : DataW H × List MemPlace} (h : DataW.trod enc Try.prog w base spare held fuel 31 [c0, c1, c2, c3, c4] = some x) :
    ∃ v : Vh, [c0, c1, c2, c3, c4] = [.int .i64 v.hx, .int .i64 v.hy, .int .i64 v.cp, .int .i64 v.st, .int .i64 v.en] := by
  obtain ⟨_, _, h0⟩ := fieldS (i := 0) Try.underlying31 h rfl
  obtain ⟨_, _, h1⟩ := fieldS (i := 1) Try.underlying31 h rfl
  obtain ⟨_, _, h2⟩ := fieldS (i := 2) Try.underlying31 h rfl
  obtain ⟨_, _, h3⟩ := fieldS (i := 3) Try.underlying31 h rfl
  simp [cellsI, cellsPl] at h0 h1 h2 h3
  obtain ⟨_, _, e0⟩ := fieldS (i := 0) Try.underlying29 h0 rfl
  obtain ⟨_, _, e1⟩ := fieldS (i := 1) Try.underlying29 h0 rfl
  simp [cellsI] at e0 e1
  obtain ⟨hx, rfl, _⟩ := i64_of e0
  obtain ⟨hy, rfl, _⟩ := i64_of e1
  obtain ⟨cp, rfl, _⟩ := i64_of h1
  obtain ⟨st, rfl, _⟩ := i64_of h2
  obtain ⟨en, rfl, _⟩ := i64_of h3
  exact ⟨⟨hx, hy, cp, st, en⟩, rfl⟩
set_option maxRecDepth 100000 in
theorem s6_of {n : Nat} {cs : List Value} {y : DataW H × List MemPlace} (hy : DataW.trod enc Try.prog w base spare held n 62 cs = some y) (hl : cs.length = 6) : ∃ x : S6, cs = s6V x ∧ x.ok := by
  obtain ⟨a0, a1, a2, a3, a4, a5, rfl⟩ := list6T hl
  obtain ⟨_, _, e0⟩ := elemA (i := 0) Try.underlying62 hy (by decide)
  obtain ⟨_, _, e1⟩ := elemA (i := 1) Try.underlying62 hy (by decide)
  obtain ⟨_, _, e2⟩ := elemA (i := 2) Try.underlying62 hy (by decide)
  obtain ⟨_, _, e3⟩ := elemA (i := 3) Try.underlying62 hy (by decide)
  obtain ⟨_, _, e4⟩ := elemA (i := 4) Try.underlying62 hy (by decide)
  obtain ⟨_, _, e5⟩ := elemA (i := 5) Try.underlying62 hy (by decide)
  simp [cellsU8] at e0 e1 e2 e3 e4 e5
  obtain ⟨x0, rfl, h0⟩ := u8_of e0
  obtain ⟨x1, rfl, h1⟩ := u8_of e1
  obtain ⟨x2, rfl, h2⟩ := u8_of e2
  obtain ⟨x3, rfl, h3⟩ := u8_of e3
  obtain ⟨x4, rfl, h4⟩ := u8_of e4
  obtain ⟨x5, rfl, h5⟩ := u8_of e5
  exact ⟨⟨x0, x1, x2, x3, x4, x5⟩, rfl, h0, h1, h2, h3, h4, h5⟩
set_option maxRecDepth 100000 in
theorem openDraft {r : Reach} {b0 : Nat} {v : Value} {d : DataW H} {p : List MemPlace} (hv : Value.okWide Try.prog w r b0 26 v) (h : DataW.Trod enc Try.prog w base spare held 26 v d p) :
    ∃ (a wd s0 e0 : Int) (xr xb : Option Addr) (Nr cr Nb cb : Nat) (rs : List S6) (bs : List Int), v = .agg #[.int .u8 a, .int .u8 wd, .slice xr Nr cr, .slice xb Nb cb, .int .u8 s0, .int .u16 e0] ∧
      U8 a ∧ U8 wd ∧ U8 s0 ∧ (0 ≤ e0 ∧ e0 < 65536) ∧ (∀ x ∈ rs, x.ok) ∧ (∀ x ∈ bs, 0 ≤ x ∧ x < 256) ∧ RowB w.heap.size w (.slice xr Nr cr) 6 (rs.map s6V) ∧ RowB w.heap.size w (.slice xb Nb cb) 1 (bs.map Route.byV) := by
  obtain ⟨cs, rfl, hsz⟩ := okWide_struct Try.underlying26 hv
  obtain ⟨c0, c1, c2, c3, c4, c5, rfl⟩ := array6D (hsz.trans (by kernel_rfl))
  obtain ⟨fuel, hf⟩ := h
  obtain ⟨_, _, h0⟩ := fieldS (i := 0) Try.underlying26 hf rfl
  obtain ⟨_, _, h1⟩ := fieldS (i := 1) Try.underlying26 hf rfl
  obtain ⟨_, _, h2⟩ := fieldS (i := 2) Try.underlying26 hf rfl
  obtain ⟨_, _, h3⟩ := fieldS (i := 3) Try.underlying26 hf rfl
  obtain ⟨_, _, h4⟩ := fieldS (i := 4) Try.underlying26 hf rfl
  obtain ⟨_, _, h5⟩ := fieldS (i := 5) Try.underlying26 hf rfl
  simp [Value.cells, cellsU8, cellsS8, cellsR6, cellsU16] at h0 h1 h2 h3 h4 h5
  obtain ⟨rs, hr1, hr2⟩ := rows_of (f := s6V) (g := S6.ok) Try.underlying22 cellsS6 (by decide) (fun n cs y hy hl => s6_of hy hl) h2
  obtain ⟨bs, hb1, hb2⟩ := rows_of (f := Route.byV) (g := fun x => 0 ≤ x ∧ x < 256) Try.underlying23 cellsU8 (by decide) (fun n cs y hy hl => by
    obtain ⟨a, rfl⟩ := list1T hl
    obtain ⟨n, rfl, hn⟩ := u8_of hy
    exact ⟨n, rfl, hn⟩) h3
  obtain ⟨a, rfl, ha⟩ := u8_of h0
  obtain ⟨wd, rfl, hwd⟩ := u8_of h1
  obtain ⟨s0, rfl, hs0⟩ := u8_of h4
  obtain ⟨e0, rfl, he0⟩ := u16_of h5
  obtain ⟨xr, cr, rfl, _⟩ := id hr1
  obtain ⟨xb, cb, rfl, _⟩ := id hb1
  exact ⟨a, wd, s0, e0, xr, xb, _, cr, _, cb, rs, bs, rfl, ha, hwd, hs0, he0, hr2, hb2, hr1, hb1⟩
set_option maxRecDepth 100000 in
theorem openAny {r : Reach} {b0 : Nat} {v : Value} {d : DataW H} {p : List MemPlace} (hv : Value.okWide Try.prog w r b0 33 v) (h : DataW.Trod enc Try.prog w base spare held 33 v d p) :
    ∃ (xl : Option Addr) (Nl cl : Nat) (l : List (Int × Int)) (x : Vh), v = .agg #[.slice xl Nl cl, .int .i64 x.hx, .int .i64 x.hy, .int .i64 x.cp, .int .i64 x.st, .int .i64 x.en] ∧ Row w.heap.size w (.slice xl Nl cl) l ∧ Nums l := by
  obtain ⟨cs, rfl, hsz⟩ := okWide_struct Try.underlying33 hv
  obtain ⟨c0, c1, c2, c3, c4, c5, rfl⟩ := array6D (hsz.trans (by kernel_rfl))
  obtain ⟨fuel, hf⟩ := h
  obtain ⟨_, _, h0⟩ := fieldS (i := 0) Try.underlying33 hf rfl
  obtain ⟨_, _, h1⟩ := fieldS (i := 1) Try.underlying33 hf rfl
  simp [Value.cells, cellsSts, cellsVeh] at h0 h1
  obtain ⟨l, hl1, hl2⟩ := rows_of (f := stV) (g := fun s => I64 s.1 ∧ I64 s.2) Try.underlying27 cellsSt (by decide) (fun n cs y hy hl => by
    obtain ⟨a, b, rfl⟩ := list2T hl
    obtain ⟨_, _, h0⟩ := fieldS (i := 0) Try.underlying58 hy rfl
    obtain ⟨_, _, h1⟩ := fieldS (i := 1) Try.underlying58 hy rfl
    obtain ⟨x, rfl, hx⟩ := i64_of (by simpa [cellsI] using h0)
    obtain ⟨z, rfl, hz⟩ := i64_of (by simpa [cellsI] using h1)
    exact ⟨(x, z), rfl, hx, hz⟩) h0
  obtain ⟨x, e⟩ := veh_of h1
  simp only [List.cons.injEq, and_true] at e
  obtain ⟨rfl, rfl, rfl, rfl, rfl⟩ := e
  obtain ⟨xl, cl, rfl, _⟩ := id hl1
  exact ⟨xl, _, cl, l, x, rfl, hl1, hl2⟩
set_option maxRecDepth 100000 in
theorem openTwo {r : Reach} {b0 : Nat} {v : Value} {d : DataW H} {p : List MemPlace} (hv : Value.okWide Try.prog w r b0 34 v) (h : DataW.Trod enc Try.prog w base spare held 34 v d p) :
    ∃ a b : Int, v = .agg #[.int .i64 a, .int .i64 b] ∧ I64 a ∧ I64 b := by
  simp only [Value.okWide, Try.underlying34] at hv
  obtain ⟨cs, rfl, hsz, _⟩ := hv
  obtain ⟨c0, c1, rfl⟩ := array2D (hsz.trans (by kernel_rfl))
  obtain ⟨fuel, hf⟩ := h
  obtain ⟨_, _, e0⟩ := elemA (i := 0) Try.underlying34 hf (by decide)
  obtain ⟨_, _, e1⟩ := elemA (i := 1) Try.underlying34 hf (by decide)
  simp [Value.cells, cellsI] at e0 e1
  obtain ⟨a, rfl, ha⟩ := i64_of e0
  obtain ⟨b, rfl, hb⟩ := i64_of e1
  exact ⟨a, b, rfl, ha, hb⟩
end
end Go.Proofs.Ytfoflfeaegfnnaa.Slack

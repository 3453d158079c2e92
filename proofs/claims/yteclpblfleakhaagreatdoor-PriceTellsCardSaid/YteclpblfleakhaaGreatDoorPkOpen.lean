import Derived.Test.YteclpblfleakhaaGreatDoorPkPriceMath
import Derived.Lib.SmallJoins

namespace Go.Proofs.YteclpblfleakhaaGreatDoor.Close
open Go.ChangeShapes Go.WideShapes Go.ChangeAt Go.RowKit
section
variable {H : Type} {enc : TypeId × Value → H} {P : Program} {w : World} {base : Nat} {spare : Nat → Bool} {held : Bool}
theorem open_numbers {r : Reach} {b0 : Nat} {t e : TypeId} {n : Nat} {k : IntKind} {v : Value} {d : DataW H} {p : List MemPlace} (ht : P.underlying t = some (.array n e)) (he : P.underlying e = some (.int k))
 (hc : P.cellsOf e = 1) (hct : P.cellsOf t = n) (hv : Value.okWide P w r b0 t v) (h : DataW.Trod enc P w base spare held t v d p) :
 ∃ xs : List Int, xs.length = n ∧ v = .agg (xs.map (Value.int k)).toArray ∧ ∀ x ∈ xs, (Lit.int k x).wf = true := by
 simp only [Value.okWide, ht] at hv
 obtain ⟨cs, rfl, hsz, _⟩ := hv
 obtain ⟨fuel, hf⟩ := h
 obtain ⟨ys, m, _, _, _, hlen, hel⟩ := DataW.trod_array ht hf
 simp only [hc, Nat.mul_one] at hel
 have hcs : (Value.agg cs).cells.toList = cs.toList := rfl
 rw [hct] at hsz
 have hone : ∀ i (hi : i < n), ∃ x : Int, cs.toList[i]? = some (.int k x) ∧ (Lit.int k x).wf = true := by
  intro i hi
  have h1 := hel i hi
  have hi' : i < cs.toList.length := by simpa [hsz] using hi
  have hdrop : (cs.toList.drop i).take 1 = [cs.toList[i]] := by
   rw [List.drop_eq_getElem_cons hi']
   rfl
  rw [show ((Value.agg cs).cells.toList.drop i).take 1 = [cs.toList[i]] from hdrop] at h1
  rw [List.getElem?_eq_getElem (by omega)] at h1
  obtain ⟨x, hx, _, hw⟩ := DataW.trod_int he h1
  refine ⟨x, ?_, hw⟩
  rw [List.getElem?_eq_getElem hi']
  simpa using hx
 have hall : ∀ l : List Value, (∀ v ∈ l, ∃ x : Int, v = .int k x ∧ (Lit.int k x).wf = true) → ∃ xs : List Int, l = xs.map (Value.int k) ∧ ∀ x ∈ xs, (Lit.int k x).wf = true := by
  intro l
  induction l with
  | nil => exact fun _ => ⟨[], rfl, fun x hx => by cases hx⟩
  | cons v l ih =>
   intro hl
   obtain ⟨x, rfl, hw⟩ := hl v (List.mem_cons_self ..)
   obtain ⟨xs, rfl, hws⟩ := ih (fun u hu => hl u (List.mem_cons_of_mem _ hu))
   exact ⟨x :: xs, rfl, fun y hy => by
    rcases List.mem_cons.1 hy with rfl | hy
    · exact hw
    · exact hws y hy⟩
 obtain ⟨xs, hxs, hws⟩ := hall cs.toList (fun v hv => by
  obtain ⟨i, hi, rfl⟩ := List.getElem_of_mem hv
  obtain ⟨x, hx, hw⟩ := hone i (by simpa [hsz] using hi)
  rw [List.getElem?_eq_getElem hi] at hx
  exact ⟨x, Option.some.inj hx, hw⟩)
 refine ⟨xs, ?_, ?_, hws⟩
 · have := congrArg List.length hxs
   simp [hsz] at this
   exact this.symm
 · have : cs = (xs.map (Value.int k)).toArray := by rw [← hxs]
   rw [this]
end
end Go.Proofs.YteclpblfleakhaaGreatDoor.Close
namespace Go.Proofs.YteclpblfleakhaaGreatDoor.When
open Go.ChangeShapes Go.WideShapes Go.ChangeAt Go.RowKit Go.Proofs.YteclpblfleakhaaGreatDoor.Mem Go.Proofs.YteclpblfleakhaaGreatDoor.Route
set_option linter.unusedVariables false
theorem wf_ends {x : Int} (h : (Lit.int .i64 x).wf = true) : -9223372036854775808 ≤ x ∧ x ≤ 9223372036854775807 := by
 simp [Lit.wf, IntKind.min, IntKind.max, IntKind.bits, IntKind.signed] at h
 omega
theorem u8_ends {x : Int} (h : (Lit.int .u8 x).wf = true) : 0 ≤ x ∧ x ≤ 255 := by
 simp [Lit.wf, IntKind.min, IntKind.max, IntKind.bits, IntKind.signed] at h
 omega
theorem exists_list {α : Type} {P : Nat → α → Prop} : ∀ {n : Nat}, (∀ i, i < n → ∃ x, P i x) → ∃ l : List α, l.length = n ∧ ∀ i x, l[i]? = some x → P i x
 | 0, _ => ⟨[], rfl, fun i x h => by simp at h⟩
 | n + 1, h => by
  obtain ⟨l, hl, hp⟩ := exists_list (n := n) (fun i hi => h i (by omega))
  obtain ⟨x, hx⟩ := h n (by omega)
  refine ⟨l ++ [x], by simp [hl], fun i y hy => ?_⟩
  rcases Nat.lt_or_ge i l.length with hi | hi
  · rw [List.getElem?_append_left hi] at hy
    exact hp i y hy
  · rw [List.getElem?_append_right hi] at hy
    have h0 : i - l.length = 0 := by have := (List.getElem?_eq_some_iff.1 hy).1; simp at this; omega
    rw [h0] at hy
    simp at hy
    subst hy
    rw [show i = n by omega]
    exact hx
theorem addAdd (g o i j : Nat) : ((⟨g, o, none⟩ : Addr).add i).add j = ⟨g, o + i + j, none⟩ := by rw [add_at, add_at]
section
variable {H : Type} {enc : TypeId × Value → H} {w : World} {base : Nat} {spare : Nat → Bool} {held : Bool}
theorem rows_of {α : Type} {t e : TypeId} {m : Nat} {f : α → List Value} {g : α → Prop} (ht : Tryz.prog.underlying t = some (.slice e)) (hc : Tryz.prog.cellsOf e = m) (hm : 0 < m)
 (hel : ∀ (n : Nat) (cs : List Value) (y : DataW H × List MemPlace), DataW.trod enc Tryz.prog w base spare held n e cs = some y → cs.length = m → ∃ x : α, cs = f x ∧ g x)
 {fuel : Nat} {v : Value} {x : DataW H × List MemPlace} (h : DataW.trod enc Tryz.prog w base spare held fuel t [v] = some x) :
 ∃ l : List α, RowB w.heap.size w v m (l.map f) ∧ ∀ y ∈ l, g y := by
 rcases DataW.trod_slice ht h with ⟨hcs, _⟩ | ⟨a, len, cap, elems, rest, n, _, hcs, _, hb, hl, hcap, hlen, hall, _, _⟩
 · simp at hcs
   exact ⟨[], ⟨none, 0, hcs, Nat.le_refl _, Nat.zero_le _, fun _ => ⟨rfl, rfl⟩, fun j r hj => by simp at hj⟩, fun y hy => by cases hy⟩
 · simp at hcs
   subst hcs
   rw [hc] at hall
   obtain ⟨l, hll, hP⟩ := exists_list (n := len) (P := fun i x => w.cells? base (a.add (i * m)) m = some (f x) ∧ g x) (fun i hi => by
    have h1 := hall i hi
    rw [List.getElem?_eq_getElem (by omega), Option.bind_eq_some_iff] at h1
    obtain ⟨cs, hcs, hy⟩ := h1
    obtain ⟨x, rfl, hg⟩ := hel n cs _ hy (World.cells?_some hcs).2.1
    exact ⟨x, hcs, hg⟩)
   refine ⟨l, ⟨some a, cap, by simp [hll], by simp [hll]; exact hl, hcap, fun e => (by cases e), fun j r hj => ?_⟩, fun y hy => ?_⟩
   · rw [List.getElem?_map] at hj
     obtain ⟨y, hy, rfl⟩ := Option.map_eq_some_iff.1 hj
     have hl0 : 0 < l.length := by have := (List.getElem?_eq_some_iff.1 hy).1; omega
     have h1 := (hP j y hy).1
     have h2 := World.cells?_some h1
     have h0 := World.cells?_some (hP 0 _ (List.getElem?_eq_getElem hl0)).1
     obtain ⟨b, off, spot⟩ := a
     have hspot : spot = none := by
      have hc0 : (f l[0])[0]? = some ((f l[0])[0]'(by rw [h0.2.1]; exact hm)) := List.getElem?_eq_getElem _
      have := h0.2.2 0 hm
      rw [hc0] at this
      simpa [Addr.add] using World.cell?_spot this
     subst hspot
     refine ⟨b, off, rfl, ?_, fun k u hk => ?_⟩
     · have := World.cells?_block h1 hm
       rw [show ((⟨b, off, none⟩ : Addr).add (j * m)).block = b by unfold Addr.add; split <;> rfl] at this
       exact this
     · have hkm : k < m := by rw [← h2.2.1]; exact (List.getElem?_eq_some_iff.1 hk).1
       have := h2.2.2 k hkm
       rw [hk, addAdd] at this
       exact this
   · obtain ⟨i, hi⟩ := List.getElem?_of_mem hy
     exact (hP i y hi).2
theorem list1T {α : Type} {cs : List α} (h : cs.length = 1) : ∃ a, cs = [a] := by
 match cs, h with
 | [a], _ => exact ⟨a, rfl⟩
theorem list2T {α : Type} {cs : List α} (h : cs.length = 2) : ∃ a b, cs = [a, b] := by
 match cs, h with
 | [a, b], _ => exact ⟨a, b, rfl⟩
theorem fieldS {P : Program} {t : TypeId} {fs : Array Field} {fuel : Nat} {cs : List Value} {x : DataW H × List MemPlace} (ht : P.underlying t = some (.struct fs)) (h : DataW.trod enc P w base spare held fuel t cs = some x) {i : Nat} {f : Field} (hf : fs[i]? = some f) :
 ∃ n y, DataW.trod enc P w base spare held n f.type ((cs.drop f.offset).take (P.cellsOf f.type)) = some y := by
 obtain ⟨xs, n, _, _, _, hlen, hall⟩ := DataW.trod_struct ht h
 have h1 := hall i f hf
 have hi : i < fs.size := (Array.getElem?_eq_some_iff.1 hf).1
 rw [List.getElem?_eq_getElem (by omega)] at h1
 exact ⟨n, _, h1⟩
theorem cellsU8 : Tryz.prog.cellsOf 5 = 1 := by kernel_rfl
theorem cellsI : Tryz.prog.cellsOf 3 = 1 := by kernel_rfl
theorem cellsSt : Tryz.prog.cellsOf 82 = 2 := by kernel_rfl
theorem u8_of {fuel : Nat} {v : Value} {x : DataW H × List MemPlace} (h : DataW.trod enc Tryz.prog w base spare held fuel 5 [v] = some x) : ∃ n : Int, v = .int .u8 n ∧ 0 ≤ n ∧ n < 256 := by
 obtain ⟨n, hn, _, hw⟩ := DataW.trod_int Tryz.underlying5 h
 simp at hn
 have := u8_ends hw
 exact ⟨n, hn, by omega, by omega⟩
theorem i64_of {fuel : Nat} {v : Value} {x : DataW H × List MemPlace} (h : DataW.trod enc Tryz.prog w base spare held fuel 3 [v] = some x) : ∃ n : Int, v = .int .i64 n ∧ I64 n := by
 obtain ⟨n, hn, _, hw⟩ := DataW.trod_int Tryz.underlying3 h
 simp at hn
 exact ⟨n, hn, wf_ends hw⟩
theorem cellsS8 : Tryz.prog.cellsOf 22 = 1 := by kernel_rfl
theorem two_of {fuel : Nat} {T : TypeId} {fs : Array Field} {a b : Value} {x : DataW H × List MemPlace} (hT : Tryz.prog.underlying T = some (.struct fs)) (hf0 : ∃ f, fs[0]? = some f ∧ f.type = 3 ∧ f.offset = 0) (hf1 : ∃ f, fs[1]? = some f ∧ f.type = 3 ∧ f.offset = 1)
 (h : DataW.trod enc Tryz.prog w base spare held fuel T [a, b] = some x) : (∃ n : Int, a = .int .i64 n ∧ I64 n) ∧ ∃ n : Int, b = .int .i64 n ∧ I64 n := by
 obtain ⟨f0, e0, t0, o0⟩ := hf0
 obtain ⟨f1, e1, t1, o1⟩ := hf1
 obtain ⟨_, _, h0⟩ := fieldS hT h e0
 obtain ⟨_, _, h1⟩ := fieldS hT h e1
 rw [t0, o0] at h0
 rw [t1, o1] at h1
 exact ⟨i64_of (by simpa [cellsI] using h0), i64_of (by simpa [cellsI] using h1)⟩
end
end Go.Proofs.YteclpblfleakhaaGreatDoor.When
namespace Go.Proofs.YteclpblfleakhaaGreatDoor.Price
open Go.RowKit Go.ChangeShapes Go.WideShapes Go.ChangeAt Go.Proofs.YteclpblfleakhaaGreatDoor.Mem Go.Proofs.YteclpblfleakhaaGreatDoor.Route Go.Proofs.YteclpblfleakhaaGreatDoor.When Go.Proofs.YteclpblfleakhaaGreatDoor.Plan
set_option linter.unusedVariables false
section
variable {H : Type} {enc : TypeId × Value → H} {w : World} {base : Nat} {spare : Nat → Bool} {held : Bool}
theorem list5P {α : Type} {cs : Array α} (h : cs.size = 5) : ∃ c0 c1 c2 c3 c4, cs = #[c0, c1, c2, c3, c4] := by
 obtain ⟨l⟩ := cs
 match l, h with
 | [c0, c1, c2, c3, c4], _ => exact ⟨c0, c1, c2, c3, c4, rfl⟩
theorem cellsDr : Tryz.prog.cellsOf 24 = 4 := by kernel_rfl
set_option maxRecDepth 100000 in
theorem openDraft14 {r : Reach} {b0 : Nat} {v : Value} {d : DataW H} {p : List MemPlace} (hv : Value.okWide Tryz.prog w r b0 26 v) (h : DataW.Trod enc Tryz.prog w base spare held 26 v d p) :
 ∃ (xb : Option Addr) (Nb cb : Nat) (bs : List Int) (a b k f : Int), v = .agg #[.slice xb Nb cb, .int .u8 a, .int .u8 b, .int .i64 k, .int .u8 f] ∧ RowB w.heap.size w (.slice xb Nb cb) 1 (bs.map byV) ∧ (∀ x ∈ bs, 0 ≤ x ∧ x < 256) ∧ (0 ≤ a ∧ a < 256) ∧ (0 ≤ b ∧ b < 256) ∧ 0 ≤ f ∧ f < 256 := by
 obtain ⟨cs, rfl, hsz⟩ := okWide_struct Tryz.underlying26 hv
 obtain ⟨c0, c1, c2, c3, c4, rfl⟩ := list5P (hsz.trans (by kernel_rfl))
 obtain ⟨fuel, hf⟩ := h
 obtain ⟨_, _, hD⟩ := fieldS (i := 0) Tryz.underlying26 hf rfl
 obtain ⟨_, _, h4⟩ := fieldS (i := 1) Tryz.underlying26 hf rfl
 simp [Value.cells, cellsDr, cellsU8] at hD h4
 obtain ⟨_, _, h0⟩ := fieldS (i := 0) Tryz.underlying24 hD rfl
 obtain ⟨_, _, h1⟩ := fieldS (i := 1) Tryz.underlying24 hD rfl
 obtain ⟨_, _, h2⟩ := fieldS (i := 2) Tryz.underlying24 hD rfl
 obtain ⟨_, _, h3⟩ := fieldS (i := 3) Tryz.underlying24 hD rfl
 simp [cellsI, cellsU8, cellsS8] at h0 h1 h2 h3
 obtain ⟨bs, hb1, hb2⟩ := rows_of (f := byV) (g := fun x => 0 ≤ x ∧ x < 256) Tryz.underlying22 cellsU8 (by decide) (fun n cs y hy hl => by
  obtain ⟨a, rfl⟩ := list1T hl
  obtain ⟨n, rfl, hn⟩ := u8_of hy
  exact ⟨n, rfl, hn⟩) h0
 obtain ⟨a, rfl, ha⟩ := u8_of h1
 obtain ⟨b, rfl, hb⟩ := u8_of h2
 obtain ⟨k, rfl, _⟩ := i64_of h3
 obtain ⟨f, rfl, hff⟩ := u8_of h4
 obtain ⟨xb, cb, rfl, _⟩ := id hb1
 exact ⟨xb, _, cb, bs, a, b, k, f, rfl, hb1, hb2, ha, hb, hff⟩
set_option maxRecDepth 100000 in
theorem openBytes14 {r : Reach} {b0 : Nat} {v : Value} {d : DataW H} {p : List MemPlace} (hv : Value.okWide Tryz.prog w r b0 22 v) (h : DataW.Trod enc Tryz.prog w base spare held 22 v d p) :
 ∃ (x : Option Addr) (N cap : Nat) (ps : List Int), v = .slice x N cap ∧ RowB w.heap.size w (.slice x N cap) 1 (ps.map byV) ∧ ∀ y ∈ ps, 0 ≤ y ∧ y < 256 := by
 obtain ⟨a, len, cap, rfl⟩ := okWide_slice Tryz.underlying22 hv
 obtain ⟨fuel, hf⟩ := h
 obtain ⟨bs, hb1, hb2⟩ := rows_of (f := byV) (g := fun x => 0 ≤ x ∧ x < 256) Tryz.underlying22 cellsU8 (by decide) (fun n cs y hy hl => by
  obtain ⟨a, rfl⟩ := list1T hl
  obtain ⟨n, rfl, hn⟩ := u8_of hy
  exact ⟨n, rfl, hn⟩) hf
 exact ⟨a, len, cap, bs, rfl, hb1, hb2⟩
end
end Go.Proofs.YteclpblfleakhaaGreatDoor.Price

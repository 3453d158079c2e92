import Derived.Test.YteclpblfleakhaaDoorPkPlanProg
import Derived.Lib.SmallJoins
import Derived.Test.YteclpblfleakhaaDoorTie
import Derived.Test.YteclpblfleakhaaDoorCards
import Derived.LaidMore

namespace Go.Proofs.YteclpblfleakhaaDoor
open Go.ChangeShapes Go.WideShapes Go.ChangeAt Go.RowKit
namespace Close
variable {H : Type} {enc : TypeId × Value → H} {P : Program}
def allRead (P : Program) (ts : List TypeId) : Bool := ts.all fun t => P.readableRec t && decide (t < P.types.size)
theorem below_trodAll (hl : laidOutB P = true) {W W' : World} (hb : Below W.heap.size W W') :
 ∀ {ts : List TypeId} {vs : List Value} {ds : List (DataW H)} {ps : List MemPlace}, allRead P ts = true →
  DataW.TrodAll enc P W 0 (fun _ => true) true ts vs ds ps → (∀ p ∈ ps, p.block < W.heap.size) →
  DataW.TrodAll enc P W' 0 (fun b => decide (b < W.heap.size)) true ts vs ds ps := by
 intro ts
 induction ts with
 | nil =>
  intro vs ds ps _ h _
  obtain ⟨rfl, rfl, rfl⟩ := trodAll_nil h
  exact h
 | cons t ts ih =>
  intro vs ds ps ha h hlt
  obtain ⟨v, vs', d, ds', p, q, rfl, rfl, rfl, h0, h1⟩ := trodAll_cons h
  simp only [allRead, List.all_cons, Bool.and_eq_true, decide_eq_true_eq] at ha
  have h0' := Below.trod hl ha.1.1 ha.1.2 h0 hb (fun x hx => hlt x (List.mem_append_left _ hx))
  have h1' := ih ha.2 h1 (fun x hx => hlt x (List.mem_append_right _ hx))
  exact trodAll_cons_mk h0' h1'
theorem law_post {f : Func} {s : ChangeSpec} {W W' : World} {args : Array Value} {ds gs : List (DataW H)} {before : List MemPlace} {tb : TypeId}
 (hl : laidOutB P = true) (hts : allRead P f.params.toList = true) (hvars : s.vars = []) (hres : f.resultTypes = #[tb]) (htb : P.underlying tb = some .bool)
 (hW : DataW.Whole enc P f.params.toList s.vars false W args.toList ds gs before)
 (hout : s.fn H (ds ++ gs) = { results := [.lit (.bool true)], args := ds }) (hb : Below W.heap.size W W') :
 s.post enc P f false true false false W args (.bool true) W' := by
 have hlt : ∀ p ∈ before, p.block < W.heap.size := fun p hp => hW.lt p hp
 have hW' := hW
 obtain ⟨p, q, hA, hV, rfl, _, _⟩ := hW
 rw [hvars] at hV
 obtain ⟨rfl, rfl⟩ := trodVars_none hV
 refine ⟨ds, [], p ++ [], [], p, [], hW', ?_, ?_, ?_, ?_, fun h => by cases h⟩
 · rw [hout, hres]
   exact trodAll_cons_mk (shut_bool htb _) trodAll_mk0
 · rw [hout]
   exact below_trodAll hl hb hts hA (fun x hx => hlt x (by simpa using hx))
 · rw [hvars, hout]
   rfl
 · refine World.keptBut_mono (fun x hx => ⟨hx, .inr (.inl ?_)⟩) (hb.frame (· ∈ p ++ []))
   simpa using hx
end Close
theorem own : ownKnob Tryd.prog.godebug = none := by kernel_rfl
theorem laidOut : laidOutB Tryd.prog = true := by kernel_rfl
end Go.Proofs.YteclpblfleakhaaDoor
namespace Go.Proofs.YteclpblfleakhaaDoor.Laid
open Go.ChangeShapes Go.WideShapes Go.RowKit Go.Proofs.YteclpblfleakhaaDoor.Load Go.Proofs.YteclpblfleakhaaDoor.Price
set_option maxRecDepth 100000
abbrev lst : List (String × DataW Unit) := [("consign/load.signs", Rows.laid_consign_load_signs), ("consign/cheap.none", Rows.laid_consign_cheap_none), ("consign/price.none", Rows.laid_consign_price_none)]
theorem gSigns : Tryd.prog.globalNamed "consign/load.signs" = some 2 := by kernel_rfl
theorem tSigns : (Tryd.prog.globals[2]?).map (·.type) = some 191 := by kernel_rfl
theorem gNone : Tryd.prog.globalNamed "consign/cheap.none" = some 1 := by kernel_rfl
theorem tNone : (Tryd.prog.globals[1]?).map (·.type) = some 116 := by kernel_rfl
theorem gBest : Tryd.prog.globalNamed "consign/price.none" = some 0 := by kernel_rfl
theorem tBest : (Tryd.prog.globals[0]?).map (·.type) = some 107 := by kernel_rfl
theorem door_met (os : Os) (args : Array Value) : laidMetH Tryd.prog lst ((World.doorLaid Tryd.prog 400 os).forCall (fun _ _ => 0) ⟨#[], args, []⟩).memory :=
 laidMetH_of_parts3 (fuel := 8) (laidMet_of_run' 8 (by kernel_rfl) (by kernel_rfl)) (by kernel_rfl) (by kernel_rfl)
theorem sg_of_laid {W : World} (h : laidMetH Tryd.prog lst W) : Sg3 W := by
 rw [MakeChecks.laidMetH_plain _ _ _ (by kernel_rfl)] at h
 obtain ⟨ps, ⟨g1, t1, cs1, f1, p1, q1, hg1, ht1, hv1, hd1, ⟨g2, t2, cs2, f2, p2, q2, hg2, ht2, hv2, hd2, ⟨g3, t3, cs3, f3, p3, q3, hg3, ht3, hv3, hd3, _, _⟩, _⟩, _⟩, _, _⟩ := h
 refine ⟨⟨?_, ?_⟩, ?_⟩
 · obtain rfl := Option.some.inj (gSigns.symm.trans hg1)
   obtain rfl := Option.some.inj (tSigns.symm.trans ht1)
   obtain ⟨xs, m1, rfl, hx1, hlen, hn3, hel⟩ := DataW.trod_array Tryd.underlying191 hd1
   have c3 : Tryd.prog.cellsOf 3 = 1 := by kernel_rfl
   have h0 := hel 0 (by decide)
   have h1 := hel 1 (by decide)
   simp only [Prod.mk.injEq, Rows.laid_consign_load_signs, DataW.agg.injEq] at hx1
   match xs, hn3, hx1, h0, h1 with
   | [x0, x1], _, hx1, h0, h1 =>
    simp only [List.map_cons, List.map_nil, List.cons.injEq, and_true] at hx1
    obtain ⟨k, e1, e2, _⟩ := DataW.trod_int Tryd.underlying3 (show DataW.trod _ Tryd.prog W 0 _ false m1 3 _ = some x0 from h0)
    obtain ⟨k2, e3, e4, _⟩ := DataW.trod_int Tryd.underlying3 (show DataW.trod _ Tryd.prog W 0 _ false m1 3 _ = some x1 from h1)
    have hk : k = 1 := by rw [e2] at hx1; simpa using hx1.1.1.symm
    have hk2 : k2 = -1 := by rw [e4] at hx1; simpa using hx1.1.2.symm
    subst hk
    subst hk2
    have v0 := World.var?_cell hg1 hv1 0
    have v1 := World.var?_cell hg1 hv1 1
    obtain ⟨l1⟩ := cs1
    rw [c3] at e1 e3
    match l1, e1, e3 with
    | [], e1, e3 => simp at e1
    | [c], e1, e3 => simp at e3
    | c :: c2 :: _, e1, e3 =>
     simp at e1 e3
     subst e1
     subst e3
     exact ⟨by simpa using v0, by simpa using v1⟩
 · obtain rfl := Option.some.inj (gNone.symm.trans hg2)
   obtain rfl := Option.some.inj (tNone.symm.trans ht2)
   obtain ⟨xs, m1, rfl, hx1, hlen, hn3, hel⟩ := DataW.trod_struct Tryd.underlying116 hd2
   have c3 : Tryd.prog.cellsOf 3 = 1 := by kernel_rfl
   have h0 := hel 0 _ rfl
   have h1 := hel 1 _ rfl
   have h2 := hel 2 _ rfl
   simp only [Prod.mk.injEq, Rows.laid_consign_cheap_none, DataW.agg.injEq] at hx1
   match xs, hn3, hx1, h0, h1, h2 with
   | [x0, x1, x2], _, hx1, h0, h1, h2 =>
    simp only [List.map_cons, List.map_nil, List.cons.injEq, and_true] at hx1
    obtain ⟨k, e1, e2, _⟩ := DataW.trod_int Tryd.underlying3 (show DataW.trod _ Tryd.prog W 0 _ false m1 3 _ = some x0 from h0)
    obtain ⟨k2, e3, e4, _⟩ := DataW.trod_int Tryd.underlying3 (show DataW.trod _ Tryd.prog W 0 _ false m1 3 _ = some x1 from h1)
    obtain ⟨k3, e5, e6, _⟩ := DataW.trod_int Tryd.underlying3 (show DataW.trod _ Tryd.prog W 0 _ false m1 3 _ = some x2 from h2)
    have hk : k = -1 := by rw [e2] at hx1; simpa using hx1.1.1.symm
    have hk2 : k2 = -1 := by rw [e4] at hx1; simpa using hx1.1.2.1.symm
    have hk3 : k3 = 9223372036854775807 := by rw [e6] at hx1; simpa using hx1.1.2.2.symm
    subst hk
    subst hk2
    subst hk3
    have v0 := World.var?_cell hg2 hv2 0
    have v1 := World.var?_cell hg2 hv2 1
    have v2 := World.var?_cell hg2 hv2 2
    obtain ⟨l1⟩ := cs2
    replace e1 : List.take (Tryd.prog.cellsOf 3) (List.drop 0 l1) = [.int .i64 (-1)] := e1
    replace e3 : List.take (Tryd.prog.cellsOf 3) (List.drop 1 l1) = [.int .i64 (-1)] := e3
    replace e5 : List.take (Tryd.prog.cellsOf 3) (List.drop 2 l1) = [.int .i64 9223372036854775807] := e5
    rw [c3] at e1 e3 e5
    match l1, e1, e3, e5 with
    | [], e1, e3, e5 => simp at e1
    | [c], e1, e3, e5 => simp at e3
    | [c, c2], e1, e3, e5 => simp at e5
    | c :: c2 :: c4 :: _, e1, e3, e5 =>
     simp at e1 e3 e5
     subst e1
     subst e3
     subst e5
     exact ⟨by simpa using v0, by simpa using v1, by simpa using v2⟩
 · obtain rfl := Option.some.inj (gBest.symm.trans hg3)
   obtain rfl := Option.some.inj (tBest.symm.trans ht3)
   obtain ⟨xs, m1, rfl, hx1, hlen, hn3, hel⟩ := DataW.trod_struct Tryd.underlying107 hd3
   have c3 : Tryd.prog.cellsOf 3 = 1 := by kernel_rfl
   have h0 := hel 0 _ rfl
   have h1 := hel 1 _ rfl
   have h2 := hel 2 _ rfl
   have h3 := hel 3 _ rfl
   simp only [Prod.mk.injEq, Rows.laid_consign_price_none, DataW.agg.injEq] at hx1
   match xs, hn3, hx1, h0, h1, h2, h3 with
   | [x0, x1, x2, x3], _, hx1, h0, h1, h2, h3 =>
    simp only [List.map_cons, List.map_nil, List.cons.injEq, and_true] at hx1
    obtain ⟨k, e1, e2, _⟩ := DataW.trod_int Tryd.underlying3 (show DataW.trod _ Tryd.prog W 0 _ false m1 3 _ = some x0 from h0)
    obtain ⟨k2, e3, e4, _⟩ := DataW.trod_int Tryd.underlying3 (show DataW.trod _ Tryd.prog W 0 _ false m1 3 _ = some x1 from h1)
    obtain ⟨k3, e5, e6, _⟩ := DataW.trod_int Tryd.underlying3 (show DataW.trod _ Tryd.prog W 0 _ false m1 3 _ = some x2 from h2)
    obtain ⟨k4, e7, e8, _⟩ := DataW.trod_int Tryd.underlying3 (show DataW.trod _ Tryd.prog W 0 _ false m1 3 _ = some x3 from h3)
    have hk : k = -1 := by rw [e2] at hx1; simpa using hx1.1.1.symm
    have hk2 : k2 = 0 := by rw [e4] at hx1; simpa using hx1.1.2.1.symm
    have hk3 : k3 = 0 := by rw [e6] at hx1; simpa using hx1.1.2.2.1.symm
    have hk4 : k4 = 0 := by rw [e8] at hx1; simpa using hx1.1.2.2.2.symm
    subst hk
    subst hk2
    subst hk3
    subst hk4
    have v0 := World.var?_cell hg3 hv3 0
    have v1 := World.var?_cell hg3 hv3 1
    have v2 := World.var?_cell hg3 hv3 2
    have v3 := World.var?_cell hg3 hv3 3
    obtain ⟨l1⟩ := cs3
    replace e1 : List.take (Tryd.prog.cellsOf 3) (List.drop 0 l1) = [.int .i64 (-1)] := e1
    replace e3 : List.take (Tryd.prog.cellsOf 3) (List.drop 1 l1) = [.int .i64 0] := e3
    replace e5 : List.take (Tryd.prog.cellsOf 3) (List.drop 2 l1) = [.int .i64 0] := e5
    replace e7 : List.take (Tryd.prog.cellsOf 3) (List.drop 3 l1) = [.int .i64 0] := e7
    rw [c3] at e1 e3 e5 e7
    match l1, e1, e3, e5, e7 with
    | [], e1, e3, e5, e7 => simp at e1
    | [c], e1, e3, e5, e7 => simp at e3
    | [c, c2], e1, e3, e5, e7 => simp at e5
    | [c, c2, c4], e1, e3, e5, e7 => simp at e7
    | c :: c2 :: c4 :: c5 :: _, e1, e3, e5, e7 =>
     simp at e1 e3 e5 e7
     subst e1
     subst e3
     subst e5
     subst e7
     exact ⟨by simpa using v0, by simpa using v1, by simpa using v2, by simpa using v3⟩
end Go.Proofs.YteclpblfleakhaaDoor.Laid
namespace Go.Proofs.YteclpblfleakhaaDoor.When
open Go.ChangeShapes Go.WideShapes Go.ChangeAt Go.RowKit Go.Proofs.YteclpblfleakhaaDoor.Mem Go.Proofs.YteclpblfleakhaaDoor.Route
set_option linter.unusedVariables false
theorem wf_ends {x : Int} (h : (Lit.int .i64 x).wf = true) : -9223372036854775808 ≤ x ∧ x ≤ 9223372036854775807 := by
 simp [Lit.wf, IntKind.min, IntKind.max, IntKind.bits, IntKind.signed] at h
 omega
theorem u8_ends {x : Int} (h : (Lit.int .u8 x).wf = true) : 0 ≤ x ∧ x ≤ 255 := by
 simp [Lit.wf, IntKind.min, IntKind.max, IntKind.bits, IntKind.signed] at h
 omega
theorem exists_list {α : Type} {P : Nat → α → Prop} : ∀ {n : Nat}, (∀ i, i < n → ∃ x, P i x) → ∃ l : List α, l.length = n ∧ ∀ i x, l[i]? = some x → P i x
 | 0, _ => ⟨[], rfl, fun i x h => by simp at h⟩
 | n + 1, h => by
  obtain ⟨l, hl, hp⟩ := exists_list (n := n) (fun i hi => h i (by omega))
  obtain ⟨x, hx⟩ := h n (by omega)
  refine ⟨l ++ [x], by simp [hl], fun i y hy => ?_⟩
  rcases Nat.lt_or_ge i l.length with hi | hi
  · rw [List.getElem?_append_left hi] at hy
    exact hp i y hy
  · rw [List.getElem?_append_right hi] at hy
    have h0 : i - l.length = 0 := by have := (List.getElem?_eq_some_iff.1 hy).1; simp at this; omega
    rw [h0] at hy
    simp at hy
    subst hy
    rw [show i = n by omega]
    exact hx
theorem addAdd (g o i j : Nat) : ((⟨g, o, none⟩ : Addr).add i).add j = ⟨g, o + i + j, none⟩ := by rw [add_at, add_at]
section
variable {H : Type} {enc : TypeId × Value → H} {w : World} {base : Nat} {spare : Nat → Bool} {held : Bool}
theorem rows_of {α : Type} {t e : TypeId} {m : Nat} {f : α → List Value} {g : α → Prop} (ht : Tryd.prog.underlying t = some (.slice e)) (hc : Tryd.prog.cellsOf e = m) (hm : 0 < m)
 (hel : ∀ (n : Nat) (cs : List Value) (y : DataW H × List MemPlace), DataW.trod enc Tryd.prog w base spare held n e cs = some y → cs.length = m → ∃ x : α, cs = f x ∧ g x)
 {fuel : Nat} {v : Value} {x : DataW H × List MemPlace} (h : DataW.trod enc Tryd.prog w base spare held fuel t [v] = some x) :
 ∃ l : List α, RowB w.heap.size w v m (l.map f) ∧ ∀ y ∈ l, g y := by
 rcases DataW.trod_slice ht h with ⟨hcs, _⟩ | ⟨a, len, cap, elems, rest, n, _, hcs, _, hb, hl, hcap, hlen, hall, _, _⟩
 · simp at hcs
   exact ⟨[], ⟨none, 0, hcs, Nat.le_refl _, Nat.zero_le _, fun _ => ⟨rfl, rfl⟩, fun j r hj => by simp at hj⟩, fun y hy => by cases hy⟩
 · simp at hcs
   subst hcs
   rw [hc] at hall
   obtain ⟨l, hll, hP⟩ := exists_list (n := len) (P := fun i x => w.cells? base (a.add (i * m)) m = some (f x) ∧ g x) (fun i hi => by
    have h1 := hall i hi
    rw [List.getElem?_eq_getElem (by omega), Option.bind_eq_some_iff] at h1
    obtain ⟨cs, hcs, hy⟩ := h1
    obtain ⟨x, rfl, hg⟩ := hel n cs _ hy (World.cells?_some hcs).2.1
    exact ⟨x, hcs, hg⟩)
   refine ⟨l, ⟨some a, cap, by simp [hll], by simp [hll]; exact hl, hcap, fun e => (by cases e), fun j r hj => ?_⟩, fun y hy => ?_⟩
   · rw [List.getElem?_map] at hj
     obtain ⟨y, hy, rfl⟩ := Option.map_eq_some_iff.1 hj
     have hl0 : 0 < l.length := by have := (List.getElem?_eq_some_iff.1 hy).1; omega
     have h1 := (hP j y hy).1
     have h2 := World.cells?_some h1
     have h0 := World.cells?_some (hP 0 _ (List.getElem?_eq_getElem hl0)).1
     obtain ⟨b, off, spot⟩ := a
     have hspot : spot = none := by
      have hc0 : (f l[0])[0]? = some ((f l[0])[0]'(by rw [h0.2.1]; exact hm)) := List.getElem?_eq_getElem _
      have := h0.2.2 0 hm
      rw [hc0] at this
      simpa [Addr.add] using World.cell?_spot this
     subst hspot
     refine ⟨b, off, rfl, ?_, fun k u hk => ?_⟩
     · have := World.cells?_block h1 hm
       rw [show ((⟨b, off, none⟩ : Addr).add (j * m)).block = b by unfold Addr.add; split <;> rfl] at this
       exact this
     · have hkm : k < m := by rw [← h2.2.1]; exact (List.getElem?_eq_some_iff.1 hk).1
       have := h2.2.2 k hkm
       rw [hk, addAdd] at this
       exact this
   · obtain ⟨i, hi⟩ := List.getElem?_of_mem hy
     exact (hP i y hi).2
theorem list1T {α : Type} {cs : List α} (h : cs.length = 1) : ∃ a, cs = [a] := by
 match cs, h with
 | [a], _ => exact ⟨a, rfl⟩
theorem fieldS {P : Program} {t : TypeId} {fs : Array Field} {fuel : Nat} {cs : List Value} {x : DataW H × List MemPlace} (ht : P.underlying t = some (.struct fs)) (h : DataW.trod enc P w base spare held fuel t cs = some x) {i : Nat} {f : Field} (hf : fs[i]? = some f) :
 ∃ n y, DataW.trod enc P w base spare held n f.type ((cs.drop f.offset).take (P.cellsOf f.type)) = some y := by
 obtain ⟨xs, n, _, _, _, hlen, hall⟩ := DataW.trod_struct ht h
 have h1 := hall i f hf
 have hi : i < fs.size := (Array.getElem?_eq_some_iff.1 hf).1
 rw [List.getElem?_eq_getElem (by omega)] at h1
 exact ⟨n, _, h1⟩
theorem cellsU8 : Tryd.prog.cellsOf 5 = 1 := by kernel_rfl
theorem cellsI : Tryd.prog.cellsOf 3 = 1 := by kernel_rfl
theorem u8_of {fuel : Nat} {v : Value} {x : DataW H × List MemPlace} (h : DataW.trod enc Tryd.prog w base spare held fuel 5 [v] = some x) : ∃ n : Int, v = .int .u8 n ∧ 0 ≤ n ∧ n < 256 := by
 obtain ⟨n, hn, _, hw⟩ := DataW.trod_int Tryd.underlying5 h
 simp at hn
 have := u8_ends hw
 exact ⟨n, hn, by omega, by omega⟩
theorem i64_of {fuel : Nat} {v : Value} {x : DataW H × List MemPlace} (h : DataW.trod enc Tryd.prog w base spare held fuel 3 [v] = some x) : ∃ n : Int, v = .int .i64 n ∧ I64 n := by
 obtain ⟨n, hn, _, hw⟩ := DataW.trod_int Tryd.underlying3 h
 simp at hn
 exact ⟨n, hn, wf_ends hw⟩
theorem cellsS8 : Tryd.prog.cellsOf 22 = 1 := by kernel_rfl
end
end Go.Proofs.YteclpblfleakhaaDoor.When
namespace Go.Proofs.YteclpblfleakhaaDoor.Price
open Go.RowKit Go.ChangeShapes Go.WideShapes Go.ChangeAt Go.Proofs.YteclpblfleakhaaDoor.Mem Go.Proofs.YteclpblfleakhaaDoor.Route Go.Proofs.YteclpblfleakhaaDoor.When Go.Proofs.YteclpblfleakhaaDoor.Plan
set_option linter.unusedVariables false
section
variable {H : Type} {enc : TypeId × Value → H} {w : World} {base : Nat} {spare : Nat → Bool} {held : Bool}
theorem list5P {α : Type} {cs : Array α} (h : cs.size = 5) : ∃ c0 c1 c2 c3 c4, cs = #[c0, c1, c2, c3, c4] := by
 obtain ⟨l⟩ := cs
 match l, h with
 | [c0, c1, c2, c3, c4], _ => exact ⟨c0, c1, c2, c3, c4, rfl⟩
theorem cellsDr : Tryd.prog.cellsOf 24 = 4 := by kernel_rfl
set_option maxRecDepth 100000 in
theorem openDraft14 {r : Reach} {b0 : Nat} {v : Value} {d : DataW H} {p : List MemPlace} (hv : Value.okWide Tryd.prog w r b0 26 v) (h : DataW.Trod enc Tryd.prog w base spare held 26 v d p) :
 ∃ (xb : Option Addr) (Nb cb : Nat) (bs : List Int) (a b k f : Int), v = .agg #[.slice xb Nb cb, .int .u8 a, .int .u8 b, .int .i64 k, .int .u8 f] ∧ RowB w.heap.size w (.slice xb Nb cb) 1 (bs.map byV) ∧ (∀ x ∈ bs, 0 ≤ x ∧ x < 256) ∧ (0 ≤ a ∧ a < 256) ∧ (0 ≤ b ∧ b < 256) ∧ 0 ≤ f ∧ f < 256 := by
 obtain ⟨cs, rfl, hsz⟩ := okWide_struct Tryd.underlying26 hv
 obtain ⟨c0, c1, c2, c3, c4, rfl⟩ := list5P (hsz.trans (by kernel_rfl))
 obtain ⟨fuel, hf⟩ := h
 obtain ⟨_, _, hD⟩ := fieldS (i := 0) Tryd.underlying26 hf rfl
 obtain ⟨_, _, h4⟩ := fieldS (i := 1) Tryd.underlying26 hf rfl
 simp [Value.cells, cellsDr, cellsU8] at hD h4
 obtain ⟨_, _, h0⟩ := fieldS (i := 0) Tryd.underlying24 hD rfl
 obtain ⟨_, _, h1⟩ := fieldS (i := 1) Tryd.underlying24 hD rfl
 obtain ⟨_, _, h2⟩ := fieldS (i := 2) Tryd.underlying24 hD rfl
 obtain ⟨_, _, h3⟩ := fieldS (i := 3) Tryd.underlying24 hD rfl
 simp [cellsI, cellsU8, cellsS8] at h0 h1 h2 h3
 obtain ⟨bs, hb1, hb2⟩ := rows_of (f := byV) (g := fun x => 0 ≤ x ∧ x < 256) Tryd.underlying22 cellsU8 (by decide) (fun n cs y hy hl => by
  obtain ⟨a, rfl⟩ := list1T hl
  obtain ⟨n, rfl, hn⟩ := u8_of hy
  exact ⟨n, rfl, hn⟩) h0
 obtain ⟨a, rfl, ha⟩ := u8_of h1
 obtain ⟨b, rfl, hb⟩ := u8_of h2
 obtain ⟨k, rfl, _⟩ := i64_of h3
 obtain ⟨f, rfl, hff⟩ := u8_of h4
 obtain ⟨xb, cb, rfl, _⟩ := id hb1
 exact ⟨xb, _, cb, bs, a, b, k, f, rfl, hb1, hb2, ha, hb, hff⟩
set_option maxRecDepth 100000 in
theorem openBytes14 {r : Reach} {b0 : Nat} {v : Value} {d : DataW H} {p : List MemPlace} (hv : Value.okWide Tryd.prog w r b0 22 v) (h : DataW.Trod enc Tryd.prog w base spare held 22 v d p) :
 ∃ (x : Option Addr) (N cap : Nat) (ps : List Int), v = .slice x N cap ∧ RowB w.heap.size w (.slice x N cap) 1 (ps.map byV) ∧ ∀ y ∈ ps, 0 ≤ y ∧ y < 256 := by
 obtain ⟨a, len, cap, rfl⟩ := okWide_slice Tryd.underlying22 hv
 obtain ⟨fuel, hf⟩ := h
 obtain ⟨bs, hb1, hb2⟩ := rows_of (f := byV) (g := fun x => 0 ≤ x ∧ x < 256) Tryd.underlying22 cellsU8 (by decide) (fun n cs y hy hl => by
  obtain ⟨a, rfl⟩ := list1T hl
  obtain ⟨n, rfl, hn⟩ := u8_of hy
  exact ⟨n, rfl, hn⟩) hf
 exact ⟨a, len, cap, bs, rfl, hb1, hb2⟩
end
end Go.Proofs.YteclpblfleakhaaDoor.Price

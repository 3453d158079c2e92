import Derived.Test.YteclpblfleakhaaGreatDoorPkRouteMath
import Derived.Test.YteclpblfleakhaaGreatDoorPkPlaceCalls
import Derived.Maps.OwnIn
import Derived.RangeFuncNested
import Derived.RangeFuncBound
import Derived.Shelf.RegionOpen
import Derived.Deep.RegionHeld3
import Derived.Deep.CutBlock
import Derived.Deep.AppendLies
import Derived.LoopIn
import Derived.Laws.AppendOwnNone
import Derived.LoopNIn
import Derived.Lib.MinMax
import Derived.DataShut

namespace Go.Proofs.YteclpblfleakhaaGreatDoor.Up
open Go.RowKit
set_option linter.unusedVariables false
structure Kept (B : Nat) (W W' : World) : Prop where
 size : W.heap.size ≤ W'.heap.size
 same : ∀ k, B ≤ k → k < W.heap.size → W'.heap[k]? = W.heap[k]?
theorem Kept.refl (B : Nat) (W : World) : Kept B W W := ⟨Nat.le_refl _, fun _ _ _ => rfl⟩
theorem Kept.trans {B : Nat} {X Y Z : World} (h : Kept B X Y) (k : Kept B Y Z) : Kept B X Z :=
 ⟨Nat.le_trans h.size k.size, fun i hB hi => (k.same i hB (Nat.lt_of_lt_of_le hi h.size)).trans (h.same i hB hi)⟩
theorem Kept.grown {B : Nat} {W W' : World} {row : Option Nat} (h : W.grownBy W' row) (hr : ∀ r, row = some r → r < B) : Kept B W W' :=
 ⟨h.size, fun k hB hk => h.block k hk (fun e => by have := hr k e.symm; omega)⟩
theorem Kept.alloc (B : Nat) (W : World) (o : Obj) : Kept B W (W.alloc o) := .grown (World.grownBy_alloc W o none) (fun r e => by cases e)
theorem Kept.setCell {B : Nat} (W : World) {b i : Nat} (h : b < B) (v : Value) : Kept B W (W.setCell ⟨b, i, none⟩ v) :=
 ⟨by simp, fun k hB hk => Below.heap_setCell W _ v k (by simp; omega)⟩
theorem Kept.mono {B C : Nat} {W W' : World} (h : Kept B W W') (hc : B ≤ C) : Kept C W W' := ⟨h.size, fun k hk hs => h.same k (Nat.le_trans hc hk) hs⟩
def Old {β : Type} (B : Nat) (J : β → World → Prop) : Prop := ∀ s A A' row, J s A → A.grownBy A' row → (∀ r, row = some r → B ≤ r ∧ ∃ o, A.heap[r]? = some o ∧ o.isCells = false) → J s A'
theorem Old.mono {β : Type} {B C : Nat} {J : β → World → Prop} (h : Old B J) (hc : B ≤ C) : Old C J := fun s A A' row hs hg hr => h s A A' row hs hg (fun r e => ⟨Nat.le_trans hc (hr r e).1, (hr r e).2⟩)
theorem Old.new {β : Type} {B : Nat} {J : β → World → Prop} (h : Old B J) {s : β} {A : World} (hs : J s A) (o : Obj) : J s (A.alloc o) := h s A _ none hs (World.grownBy_alloc A o none) (fun r e => by cases e)
theorem roundAny {m m' : Nat} {P : Program} {l : Nat} {f : FuncId} {tmps : Array Value} {assign body : Code} {w : World} {R : Ending → World → Prop} (h : RoundIn Fence.wide m P l f tmps assign body w R) :
 RoundIn Fence.wide m' P l f tmps assign body w R := ⟨h.1, fun c cs _ => h.2 c cs (room_wide _)⟩
theorem yieldAny {m : Nat} (m' : Nat) {P : Program} {l : Nat} {args : Array Value} {W : World} {R : Ending → World → Prop} (h : YieldAt Fence.wide m P l args W R) : YieldAt Fence.wide m' P l args W R := by
 obtain ⟨fn, tmps, assign, body, hy, hR⟩ := h
 exact ⟨fn, tmps, assign, body, hy, roundAny hR⟩
def upTo {α : Type} (good : α → Bool) : List α → List α
 | [] => []
 | x :: xs => x :: if good x then upTo good xs else []
theorem upTo_append {α : Type} {good : α → Bool} : ∀ {pre rest : List α}, (∀ y ∈ pre, good y = true) → upTo good (pre ++ rest) = pre ++ upTo good rest
 | [], _, _ => rfl
 | x :: pre, rest, h => by
  have h1 := h x (List.mem_cons_self ..)
  rw [List.cons_append, upTo, h1, if_pos rfl, upTo_append (fun y hy => h y (List.mem_cons_of_mem _ hy)), List.cons_append]
theorem upTo_bad {α : Type} {good : α → Bool} {x : α} (h : good x = false) (xs : List α) : upTo good (x :: xs) = [x] := by rw [upTo, h]; rfl
theorem upTo_good {α : Type} {good : α → Bool} {x : α} (h : good x = true) (xs : List α) : upTo good (x :: xs) = x :: upTo good xs := by rw [upTo, h]; rfl
theorem upTo_all {α : Type} {good : α → Bool} {xs : List α} (h : ∀ y ∈ xs, good y = true) : upTo good xs = xs := by
 have := upTo_append (rest := []) h
 simpa [upTo] using this
theorem good_snoc {α : Type} {good : α → Bool} {pre : List α} {x : α} (h : ∀ y ∈ pre, good y = true) (hx : good x = true) : ∀ y ∈ pre ++ [x], good y = true := by
 intro y hy
 rcases List.mem_append.1 hy with hy | hy
 · exact h y hy
 · obtain rfl := List.mem_singleton.1 hy
   exact hx
theorem upTo_ext {α : Type} {good : α → Bool} : ∀ {xs : List α}, (∀ y ∈ upTo good xs, good y = true) → ∀ y ∈ xs, good y = true
 | [], _, y, hy => by cases hy
 | x :: xs, h, y, hy => by
  have hx := h x (by rw [upTo]; exact List.mem_cons_self ..)
  rcases List.mem_cons.1 hy with rfl | hy
  · exact hx
  · refine upTo_ext (xs := xs) (fun z hz => h z ?_) y hy
    rw [upTo_good hx]
    exact List.mem_cons_of_mem _ hz
def upPost (good : Bool) (R : World → Prop) : Exit → Act → World → Prop
 | .normal, _, w => good = true ∧ R w
 | .ret, _, w => good = false ∧ R w
 | _, _, _ => False
def Marks (ds : List Nat) (W : World) : Prop := ∀ d ∈ ds, W.heap[d]? = some (.deferred (some []))
def mark (d : Nat) : Deferred := { target := .collected d, args := #[] }
theorem Marks.inside {ds : List Nat} {W : World} (h : Marks ds W) {d : Nat} (hd : d ∈ ds) : d < W.heap.size := (Array.getElem?_eq_some_iff.1 (h d hd)).1
theorem Marks.same {ds : List Nat} {W W' : World} (h : Marks ds W) (hs : ∀ d ∈ ds, W'.heap[d]? = W.heap[d]?) : Marks ds W' := fun d hd => (hs d hd).trans (h d hd)
theorem Marks.kept {ds : List Nat} {B : Nat} {W W' : World} (h : Marks ds W) (hk : Kept B W W') (hB : ∀ d ∈ ds, B ≤ d) : Marks ds W' := h.same fun d hd => hk.same d (hB d hd) (h.inside hd)
theorem Marks.old {ds : List Nat} {W A : World} {row : Option Nat} (h : Marks ds W) (hg : W.grownBy A row) {n : Nat} (hr : ∀ r, row = some r → n ≤ r) (hn : ∀ d ∈ ds, d < n) : Marks ds A :=
 h.same fun d hd => hg.block d (h.inside hd) (fun e => by have := hr d e.symm; have := hn d hd; omega)
theorem Marks.cons {ds : List Nat} {d : Nat} {W : World} (h : Marks ds W) (hd : W.heap[d]? = some (.deferred (some []))) : Marks (d :: ds) W := by
 intro e he
 rcases List.mem_cons.1 he with rfl | he
 · exact hd
 · exact h e he
end Go.Proofs.YteclpblfleakhaaGreatDoor.Up
namespace Go.Proofs.YteclpblfleakhaaGreatDoor.When
open Go.Proofs.YteclpblfleakhaaGreatDoor.Order Go.Proofs.YteclpblfleakhaaGreatDoor.Place Go.Proofs.YteclpblfleakhaaGreatDoor.Window Go.Proofs.YteclpblfleakhaaGreatDoor.Up
set_option linter.unusedVariables false
structure Rq where (fx fy tx ty pe pl de dl ld sv : Int)
structure Vh where (hx hy cp st en : Int)
structure Vi where (px py we wl sv : Int)
structure Tm where (ar be lv : Int)
deriving DecidableEq
structure Sp where (now px py : Int)
def Rq.chk (q : Rq) : Int := Order.chk q.fx q.fy q.tx q.ty q.pe q.pl q.de q.dl q.ld q.sv
def Vh.chk (h : Vh) : Int := Order.veh h.hx h.hy h.cp h.st h.en
def noVi : Vi := ⟨0, 0, 0, 0, 0⟩
def inT (t : List Rq) (r : Int) : Bool := decide (0 ≤ r) && decide (r < t.length)
def visO (t : List Rq) (s : Int × Int) : Option Vi :=
 if inT t s.1 then
  match t[s.1.toNat]? with
  | some q => if s.2 = 0 then some ⟨q.fx, q.fy, q.pe, q.pl, q.sv⟩ else if s.2 = 1 then some ⟨q.tx, q.ty, q.de, q.dl, q.sv⟩ else none
  | none => none
 else none
def visV (t : List Rq) (s : Int × Int) : Vi := (visO t s).getD noVi
def visB (t : List Rq) (s : Int × Int) : Bool := (visO t s).isSome
theorem visO_out {t : List Rq} {s : Int × Int} (h : inT t s.1 = false) : visO t s = none := by simp [visO, h]
theorem visO_pick {t : List Rq} {s : Int × Int} {q : Rq} (h : inT t s.1 = true) (hq : t[s.1.toNat]? = some q) (h0 : s.2 = 0) : visO t s = some ⟨q.fx, q.fy, q.pe, q.pl, q.sv⟩ := by simp [visO, h, hq, h0]
theorem visO_drop {t : List Rq} {s : Int × Int} {q : Rq} (h : inT t s.1 = true) (hq : t[s.1.toNat]? = some q) (h0 : s.2 = 1) : visO t s = some ⟨q.tx, q.ty, q.de, q.dl, q.sv⟩ := by simp [visO, h, hq, h0]
theorem inT_get {t : List Rq} {r : Int} (h : inT t r = true) : ∃ q, t[r.toNat]? = some q ∧ 0 ≤ r ∧ r < t.length := by
 simp only [inT, Bool.and_eq_true, decide_eq_true_eq] at h
 exact ⟨t[r.toNat]'(by omega), List.getElem?_eq_getElem (by omega), h.1, h.2⟩
theorem visO_odd {t : List Rq} {s : Int × Int} (h0 : s.2 ≠ 0) (h1 : s.2 ≠ 1) : visO t s = none := by
 cases hi : inT t s.1
 · exact visO_out hi
 · obtain ⟨q, hq, _⟩ := inT_get hi
   unfold visO
   rw [if_pos hi, hq]
   simp [h0, h1]
theorem visO_some {t : List Rq} {s : Int × Int} {x : Vi} (h : visO t s = some x) : ∃ q, t[s.1.toNat]? = some q ∧ 0 ≤ s.1 ∧ s.1 < t.length ∧ x.sv = q.sv ∧ (s.2 = 0 ∧ x = ⟨q.fx, q.fy, q.pe, q.pl, q.sv⟩ ∨ s.2 = 1 ∧ x = ⟨q.tx, q.ty, q.de, q.dl, q.sv⟩) := by
 cases hi : inT t s.1
 · rw [visO_out hi] at h; cases h
 · obtain ⟨q, hq, h1, h2⟩ := inT_get hi
   by_cases h0 : s.2 = 0
   · rw [visO_pick hi hq h0] at h; cases h
     exact ⟨q, hq, h1, h2, rfl, .inl ⟨h0, rfl⟩⟩
   · by_cases h3 : s.2 = 1
     · rw [visO_drop hi hq h3] at h; cases h
       exact ⟨q, hq, h1, h2, rfl, .inr ⟨h3, rfl⟩⟩
     · rw [visO_odd h0 h3] at h; cases h
def wrongV (v : Vh) (l : List (Int × Int)) (t : List Rq) : Int :=
 if v.chk ≠ 0 then 2 else if t.any (fun q => decide (q.chk ≠ 0)) then 2 else if Route.checkV l ≠ 0 then 8 else if l.any (fun s => !visB t s) then 8 else 0
def arV (a : Sp) (x : Vi) : Int := a.now + distV (a.px, a.py) (x.px, x.py)
def inB (a : Sp) (x : Vi) : Bool := waitB x.we x.wl (arV a x)
def beV (a : Sp) (x : Vi) : Int := waitV x.we x.wl (arV a x)
def tmV (a : Sp) (x : Vi) : Tm := ⟨arV a x, beV a x, beV a x + x.sv⟩
def goV (a : Sp) (x : Vi) : Sp := ⟨beV a x + x.sv, x.px, x.py⟩
def good (y : Sp × Vi) : Bool := inB y.1 y.2
def stepsL : Sp → List Vi → List (Sp × Vi)
 | _, [] => []
 | a, x :: xs => (a, x) :: stepsL (goV a x) xs
def endA (a : Sp) (xs : List Vi) : Sp := xs.foldl goV a
def tmsL (ys : List (Sp × Vi)) : List Tm := ys.map fun y => tmV y.1 y.2
def allB (a : Sp) (xs : List Vi) : Bool := (stepsL a xs).all good
theorem stepsL_vis : ∀ (a : Sp) (xs : List Vi), (stepsL a xs).map (·.2) = xs
 | _, [] => rfl
 | a, x :: xs => by simp [stepsL, stepsL_vis]
theorem stepsL_length (a : Sp) (xs : List Vi) : (stepsL a xs).length = xs.length := by
 have := congrArg List.length (stepsL_vis a xs)
 simpa using this
theorem stepsL_append : ∀ (a : Sp) (xs ys : List Vi), stepsL a (xs ++ ys) = stepsL a xs ++ stepsL (endA a xs) ys
 | _, [], _ => rfl
 | a, x :: xs, ys => by simp [stepsL, endA, stepsL_append (goV a x) xs ys]
theorem endA_snoc (a : Sp) (xs : List Vi) (x : Vi) : endA a (xs ++ [x]) = goV (endA a xs) x := by simp [endA]
theorem tmsL_snoc (ys : List (Sp × Vi)) (y : Sp × Vi) : tmsL (ys ++ [y]) = tmsL ys ++ [tmV y.1 y.2] := by simp [tmsL]
theorem stepsL_get {a : Sp} : ∀ {xs : List Vi} {pre : List (Sp × Vi)} {y : Sp × Vi} {rest : List (Sp × Vi)}, stepsL a xs = pre ++ y :: rest → y.1 = endA a (pre.map (·.2)) := by
 intro xs pre y rest h
 have hv := stepsL_vis a xs
 rw [h, List.map_append, List.map_cons] at hv
 have h2 := stepsL_append a (pre.map (·.2)) (y.2 :: rest.map (·.2))
 rw [hv, h] at h2
 have hl : pre.length = (stepsL a (pre.map (·.2))).length := by rw [stepsL_length]; simp
 have h3 := (List.append_inj h2 hl).2
 rw [stepsL] at h3
 injection h3 with h4 _
 rw [h4]
def sp0 (v : Vh) : Sp := ⟨v.st, v.hx, v.hy⟩
def homeV (v : Vh) : Vi := ⟨v.hx, v.hy, 0, v.en, 0⟩
def visL (t : List Rq) (l : List (Int × Int)) : List Vi := l.map (visV t)
def rowT (v : Vh) (l : List (Int × Int)) (t : List Rq) : List Tm := tmsL (stepsL (sp0 v) (visL t l))
def endT (v : Vh) (l : List (Int × Int)) (t : List Rq) : Int := arV (endA (sp0 v) (visL t l)) (homeV v)
def okT (v : Vh) (l : List (Int × Int)) (t : List Rq) : Bool := allB (sp0 v) (visL t l) && decide (endT v l t ≤ v.en)
def errT (v : Vh) (l : List (Int × Int)) (t : List Rq) : Int := if wrongV v l t ≠ 0 then wrongV v l t else if okT v l t then 0 else 9
def timesL (v : Vh) (l : List (Int × Int)) (t : List Rq) : List Tm := if errT v l t = 0 then rowT v l t else []
def homeT (v : Vh) (l : List (Int × Int)) (t : List Rq) : Int := if errT v l t = 0 then endT v l t else 0
theorem wrong_bits (v : Vh) (l : List (Int × Int)) (t : List Rq) : wrongV v l t = 0 → v.chk = 0 ∧ (∀ q ∈ t, q.chk = 0) ∧ Route.checkV l = 0 ∧ ∀ s ∈ l, ∃ x, visO t s = some x := by
 unfold wrongV
 intro h
 split at h
 · omega
 rename_i h1
 split at h
 · omega
 rename_i h2
 split at h
 · omega
 rename_i h3
 split at h
 · omega
 rename_i h4
 refine ⟨by omega, fun q hq => ?_, by omega, fun s hs => ?_⟩
 · simp at h2
   exact h2 q hq
 · simp [visB] at h4
   have := h4 s.1 s.2 hs
   exact Option.ne_none_iff_exists'.1 this
end Go.Proofs.YteclpblfleakhaaGreatDoor.When
namespace Go.Proofs.YteclpblfleakhaaGreatDoor.Mem
open Go.RowKit
def At (w : World) (g : Nat) (t : TypeId) (cs : Array Value) : Prop := w.heap[g]? = some (.cells cs t (0, 0))
variable {w v : World} {g : Nat} {t : TypeId} {cs : Array Value}
theorem At.cell (h : At w g t cs) (i : Nat) : w.cell? ⟨g, i, none⟩ = cs[i]? := cell_of_row w g i cs t (0, 0) h
theorem At.free (h : At w g t cs) (i : Nat) : w.frozen? ⟨g, i, none⟩ = false := by
 simp only [At] at h
 simp [World.frozen?, h]
theorem At.inside (h : At w g t cs) : g < w.heap.size := (Array.getElem?_eq_some_iff.1 h).1
theorem At.keep {B : Nat} (h : At w g t cs) (hb : Below B w v) (hg : g < B) : At v g t cs := (hb.block g hg).trans h
theorem At.drew (h : At w g t cs) : At w.drew g t cs := h
theorem At.drewN (h : At w g t cs) (n : Nat) : At (w.drewN n) g t cs := h
theorem At.alloc (h : At w g t cs) (o : Obj) : At (w.alloc o) g t cs := (Below.heap_alloc w o g h.inside).trans h
theorem At.new (w : World) (t : TypeId) (cs : Array Value) : At (w.alloc (.cells cs t)) w.heap.size t cs := heap_alloc_new w _
theorem At.new_ (w : World) (t : TypeId) (cs : Array Value) {n : Nat} (hn : n = w.heap.size) : At (w.alloc (.cells cs t)) n t cs := by subst hn; exact At.new w t cs
theorem At.put (h : At w g t cs) (i : Nat) (x : Value) : At (w.setCell ⟨g, i, none⟩ x) g t (cs.setIfInBounds i x) := by
 simp only [At] at h ⊢
 simp [World.setCell, Array.getElem?_modify, h]
theorem At.far (h : At w g t cs) {b : Nat} (hb : g ≠ b) (i : Nat) (x : Value) : At (w.setCell ⟨b, i, none⟩ x) g t cs := (Below.heap_setCell w ⟨b, i, none⟩ x g hb).trans h
end Go.Proofs.YteclpblfleakhaaGreatDoor.Mem
namespace Go.Proofs.YteclpblfleakhaaGreatDoor.Route
open Go.RowKit Go.Proofs.YteclpblfleakhaaGreatDoor.Mem
set_option linter.unusedVariables false
theorem ret_int {k : IntKind} {a b : Int} (h : a = b) : Ending.returned (.int k a) = .returned (.int k b) := by rw [h]
theorem ret_bool {a b : Bool} (h : a = b) : Ending.returned (.bool a) = .returned (.bool b) := by rw [h]
def I64 (r : Int) : Prop := -9223372036854775808 ≤ r ∧ r ≤ 9223372036854775807
theorem I64.wf {r : Int} (h : I64 r) : (Lit.int .i64 r).wf = true := (Lit.wf_int_iff _ _).2 ⟨by have := h.1; simp [IntKind.min, IntKind.bits, IntKind.signed]; omega, by have := h.2; simp [IntKind.max, IntKind.bits, IntKind.signed]; omega⟩
def Nums (l : List (Int × Int)) : Prop := ∀ s ∈ l, I64 s.1 ∧ I64 s.2
def RowB (B : Nat) (W : World) (v : Value) (m : Nat) (rows : List (List Value)) : Prop :=
 ∃ x cap, v = .slice x rows.length cap ∧ rows.length ≤ cap ∧ cap ≤ maxLen ∧ (x = none → rows = [] ∧ cap = 0) ∧
  ∀ j r, rows[j]? = some r → ∃ g o, x = some ⟨g, o, none⟩ ∧ g < B ∧ ∀ k u, r[k]? = some u → W.cell? ⟨g, o + j * m + k, none⟩ = some u
theorem RowB.keep {B C : Nat} {W W' : World} {v : Value} {m : Nat} {rows : List (List Value)} (h : RowB B W v m rows) (hb : Below C W W') (hB : B ≤ C) : RowB B W' v m rows := by
 obtain ⟨x, cap, rfl, h1, h2, h0, h3⟩ := h
 refine ⟨x, cap, rfl, h1, h2, h0, fun j r hj => ?_⟩
 obtain ⟨g, o, rfl, hg, hc⟩ := h3 j r hj
 exact ⟨g, o, rfl, hg, fun k u hk => (hb.cell (p := ⟨g, o + j * m + k, none⟩) (by show g < C; omega)).trans (hc k u hk)⟩
theorem RowB.more {B C : Nat} {W : World} {v : Value} {m : Nat} {rows : List (List Value)} (h : RowB B W v m rows) (hB : B ≤ C) : RowB C W v m rows := by
 obtain ⟨x, cap, rfl, h1, h2, h0, h3⟩ := h
 refine ⟨x, cap, rfl, h1, h2, h0, fun j r hj => ?_⟩
 obtain ⟨g, o, rfl, hg, hc⟩ := h3 j r hj
 exact ⟨g, o, rfl, by omega, hc⟩
theorem RowB.on {W W' : World} {v : Value} {m : Nat} {rows : List (List Value)} (h : RowB W.heap.size W v m rows) (hb : Below W.heap.size W W') : RowB W'.heap.size W' v m rows := (h.keep hb (Nat.le_refl _)).more hb.size
theorem RowB.row {B : Nat} {W : World} {x : Option Addr} {n cap m : Nat} {rows : List (List Value)} (h : RowB B W (.slice x n cap) m rows) {j : Nat} {r : List Value} (hj : rows[j]? = some r) :
 ∃ g o, x = some ⟨g, o, none⟩ ∧ g < B ∧ ∀ k u, r[k]? = some u → W.cell? ⟨g, o + j * m + k, none⟩ = some u := by
 obtain ⟨x', cap', e, _, _, _, h3⟩ := h
 cases e
 exact h3 j r hj
def stV (s : Int × Int) : List Value := [.int .i64 s.1, .int .i64 s.2]
def inV (r : Int) : List Value := [.int .i64 r]
def Row (B : Nat) (W : World) (v : Value) (l : List (Int × Int)) : Prop := RowB B W v 2 (l.map stV)
def Ints (B : Nat) (W : World) (v : Value) (l : List Int) : Prop := RowB B W v 1 (l.map inV)
def flatS (l : List (Int × Int)) : List Value := (l.map stV).flatten
def flatI (l : List Int) : List Value := (l.map inV).flatten
theorem flatS_snoc (l : List (Int × Int)) (s : Int × Int) : flatS (l ++ [s]) = flatS l ++ [.int .i64 s.1, .int .i64 s.2] := by simp [flatS, stV]
theorem flatI_snoc (l : List Int) (s : Int) : flatI (l ++ [s]) = flatI l ++ [.int .i64 s] := by simp [flatI, inV]
theorem flatS_append (a b : List (Int × Int)) : flatS (a ++ b) = flatS a ++ flatS b := by simp [flatS]
theorem flatS_length (l : List (Int × Int)) : (flatS l).length = l.length * 2 := by
 induction l with
 | nil => rfl
 | cons s l ih =>
  have : flatS (s :: l) = stV s ++ flatS l := by simp [flatS]
  rw [this, List.length_append, ih]
  simp [stV]
  omega
theorem flatS_one {l : List (Int × Int)} : ∀ u ∈ flatS l, u.oneCell' = true := by
 intro u hu
 simp only [flatS, List.mem_flatten, List.mem_map] at hu
 obtain ⟨r, ⟨s, _, rfl⟩, hu⟩ := hu
 simp only [stV, List.mem_cons, List.not_mem_nil, or_false] at hu
 rcases hu with rfl | rfl <;> rfl
theorem flat_get {α : Type} {m : Nat} : ∀ {rows : List (List α)}, (∀ r ∈ rows, r.length = m) → ∀ j r, rows[j]? = some r → ∀ k u, r[k]? = some u → rows.flatten[j * m + k]? = some u
 | [], _, j, r, hj, _, _, _ => by simp at hj
 | r0 :: rows, hm, j, r, hj, k, u, hk => by
  have h0 := hm r0 (List.mem_cons_self ..)
  rw [List.flatten_cons]
  cases j with
  | zero =>
   simp at hj
   subst hj
   have := (List.getElem?_eq_some_iff.1 hk).1
   rw [List.getElem?_append_left (by omega)]
   simpa using hk
  | succ j =>
   have hj' : rows[j]? = some r := by simpa using hj
   have ih := flat_get (fun r hr => hm r (List.mem_cons_of_mem _ hr)) j r hj' k u hk
   rw [List.getElem?_append_right (by rw [h0, Nat.succ_mul]; omega), h0, show (j + 1) * m + k - m = j * m + k by rw [Nat.succ_mul]; omega]
   exact ih
theorem flat_of {α : Type} {m : Nat} (hm : 0 < m) : ∀ {rows : List (List α)}, (∀ r ∈ rows, r.length = m) → ∀ i u, rows.flatten[i]? = some u → ∃ j k r, i = j * m + k ∧ rows[j]? = some r ∧ r[k]? = some u
 | [], _, i, u, h => by simp at h
 | r0 :: rows, hl, i, u, h => by
  have h0 := hl r0 (List.mem_cons_self ..)
  rw [List.flatten_cons] at h
  rcases Nat.lt_or_ge i r0.length with hi | hi
  · rw [List.getElem?_append_left hi] at h
    exact ⟨0, i, r0, by omega, rfl, h⟩
  · rw [List.getElem?_append_right hi] at h
    obtain ⟨j, k, r, e, h1, h2⟩ := flat_of hm (fun r hr => hl r (List.mem_cons_of_mem _ hr)) _ u h
    exact ⟨j + 1, k, r, by rw [Nat.succ_mul]; omega, by simpa using h1, h2⟩
theorem RowB.nil (B : Nat) (W : World) (m : Nat) : RowB B W (.slice none 0 0) m [] := ⟨none, 0, rfl, Nat.le_refl _, Nat.zero_le _, fun _ => ⟨rfl, rfl⟩, fun j r hj => by simp at hj⟩
theorem RowB.of_at {B : Nat} {W : World} {g m cap : Nat} {t : TypeId} {cs : Array Value} {rows : List (List Value)} (h : At W g t cs) (hg : g < B) (hm : ∀ r ∈ rows, r.length = m) (hcs : ∀ (i : Nat) (u : Value), rows.flatten[i]? = some u → cs[i]? = some u) (hc : rows.length ≤ cap) (hcap : cap ≤ maxLen) :
 RowB B W (.slice (some ⟨g, 0, none⟩) rows.length cap) m rows :=
 ⟨_, cap, rfl, hc, hcap, fun e => (by cases e), fun j r hj => ⟨g, 0, rfl, hg, fun k u hk => by
  rw [Nat.zero_add]
  exact (h.cell _).trans (hcs _ _ (flat_get hm j r hj k u hk))⟩⟩
theorem RowB.of_owns {B : Nat} {W : World} {base m n : Nat} {e : TypeId} {v : Value} {rows : List (List Value)} (h : W.ownsRow base e m v n rows.flatten) (hn : n = rows.length) (hm : ∀ r ∈ rows, r.length = m) (hB : W.heap.size ≤ B) : RowB B W v m rows := by
 subst hn
 obtain ⟨hl, ⟨rfl, h0⟩ | ⟨g, cap, cur, rfl, hb, hg, hc1, hc2, hs, ht⟩⟩ := h
 · obtain rfl : rows = [] := List.eq_nil_of_length_eq_zero h0
   exact .nil B W m
 · refine RowB.of_at (t := e) (cs := cur) hg (Nat.lt_of_lt_of_le (Array.getElem?_eq_some_iff.1 hg).1 hB) hm (fun i u hu => ?_) hc1 hc2
   have hi : i < rows.length * m := by
    have := (List.getElem?_eq_some_iff.1 hu).1
    omega
   rw [← ht, List.getElem?_take_of_lt hi] at hu
   simpa using hu
theorem Row.of_owns {B : Nat} {W : World} {base n : Nat} {e : TypeId} {v : Value} {l : List (Int × Int)} (h : W.ownsRow base e 2 v n (flatS l)) (hn : n = l.length) (hB : W.heap.size ≤ B) : Row B W v l :=
 RowB.of_owns h (by simpa using hn) (fun r hr => by obtain ⟨s, _, rfl⟩ := List.mem_map.1 hr; rfl) hB
theorem Ints.of_owns {B : Nat} {W : World} {base n : Nat} {e : TypeId} {v : Value} {l : List Int} (h : W.ownsRow base e 1 v n (flatI l)) (hn : n = l.length) (hB : W.heap.size ≤ B) : Ints B W v l :=
 RowB.of_owns h (by simpa using hn) (fun r hr => by obtain ⟨s, _, rfl⟩ := List.mem_map.1 hr; rfl) hB
theorem Row.keep {B C : Nat} {W W' : World} {v : Value} {l : List (Int × Int)} (h : Row B W v l) (hb : Below C W W') (hB : B ≤ C) : Row B W' v l := RowB.keep h hb hB
theorem Row.more {B C : Nat} {W : World} {v : Value} {l : List (Int × Int)} (h : Row B W v l) (hB : B ≤ C) : Row C W v l := RowB.more h hB
theorem Row.on {W W' : World} {v : Value} {l : List (Int × Int)} (h : Row W.heap.size W v l) (hb : Below W.heap.size W W') : Row W'.heap.size W' v l := RowB.on h hb
theorem Ints.keep {B C : Nat} {W W' : World} {v : Value} {l : List Int} (h : Ints B W v l) (hb : Below C W W') (hB : B ≤ C) : Ints B W' v l := RowB.keep h hb hB
theorem Ints.on {W W' : World} {v : Value} {l : List Int} (h : Ints W.heap.size W v l) (hb : Below W.heap.size W W') : Ints W'.heap.size W' v l := RowB.on h hb
theorem Row.slice {B : Nat} {W : World} {v : Value} {l : List (Int × Int)} (h : Row B W v l) : ∃ x cap, v = .slice x l.length cap ∧ l.length ≤ cap ∧ cap ≤ maxLen ∧ (x = none → l = [] ∧ cap = 0) := by
 obtain ⟨x, cap, rfl, h1, h2, h0, _⟩ := h
 refine ⟨x, cap, by simp, by simpa using h1, h2, fun e => ?_⟩
 have := h0 e
 simpa using this
theorem Ints.slice {B : Nat} {W : World} {v : Value} {l : List Int} (h : Ints B W v l) : ∃ x cap, v = .slice x l.length cap ∧ l.length ≤ cap ∧ cap ≤ maxLen := by
 obtain ⟨x, cap, rfl, h1, h2, _, _⟩ := h
 exact ⟨x, cap, by simp, by simpa using h1, h2⟩
theorem Row.stop {B : Nat} {W : World} {x : Option Addr} {n cap : Nat} {l : List (Int × Int)} (h : Row B W (.slice x n cap) l) {k : Nat} {s : Int × Int} (hk : l[k]? = some s) :
 ∃ g o, x = some ⟨g, o, none⟩ ∧ g < B ∧ W.cell? ⟨g, o + k * 2, none⟩ = some (.int .i64 s.1) ∧ W.cell? ⟨g, o + k * 2 + 1, none⟩ = some (.int .i64 s.2) := by
 obtain ⟨g, o, e, hg, hc⟩ := RowB.row h (j := k) (r := stV s) (by rw [List.getElem?_map, hk]; rfl)
 exact ⟨g, o, e, hg, hc 0 _ rfl, hc 1 _ rfl⟩
theorem Ints.number {B : Nat} {W : World} {x : Option Addr} {n cap : Nat} {l : List Int} (h : Ints B W (.slice x n cap) l) {k : Nat} {s : Int} (hk : l[k]? = some s) :
 ∃ g o, x = some ⟨g, o, none⟩ ∧ g < B ∧ W.cell? ⟨g, o + k, none⟩ = some (.int .i64 s) := by
 obtain ⟨g, o, e, hg, hc⟩ := RowB.row h (j := k) (r := inV s) (by rw [List.getElem?_map, hk]; rfl)
 exact ⟨g, o, e, hg, by simpa using hc 0 _ rfl⟩
theorem owns_below {W W' : World} {base : Nat} {e : TypeId} {size n : Nat} {v : Value} {xs : List Value} (h : W.ownsRow base e size v n xs) (hb : Below W.heap.size W W') : W'.ownsRow base e size v n xs := by
 obtain ⟨hl, h1 | ⟨g, cap, cur, rfl, hg1, hg, hr⟩⟩ := h
 · exact ⟨hl, .inl h1⟩
 · exact ⟨hl, .inr ⟨g, cap, cur, rfl, hg1, (hb.block g (Array.getElem?_eq_some_iff.1 hg).1).trans hg, hr⟩⟩
theorem owns_row {W : World} {base : Nat} {e : TypeId} {size n : Nat} {v : Value} {xs : List Value} (h : W.ownsRow base e size v n xs) : ∀ r, v.ownBlock = some r → base ≤ r := by
 obtain ⟨hl, ⟨rfl, h0⟩ | ⟨g, cap, cur, rfl, hb, hg, hc1, hc2, hs, ht⟩⟩ := h
 · intro r e; cases e
 · intro r e
   simp only [Value.ownBlock, Option.some.injEq] at e
   omega
theorem info_parts {t : TypeId} {n bytes : Nat} {z : Value} (h : (Tryz.prog.info? t).map (fun i => (i.zero, i.size, i.bytes)) = some (some z, n, bytes)) :
 ∃ i, Tryz.prog.info? t = some i ∧ i.zero = some z ∧ i.size = n ∧ i.bytes = bytes := by
 cases hi : Tryz.prog.info? t with
 | none => rw [hi] at h; simp at h
 | some i =>
  rw [hi] at h
  simp at h
  exact ⟨i, rfl, h.1, h.2.1, h.2.2⟩
theorem info_stop : (Tryz.prog.info? 82).map (fun i => (i.zero, i.size, i.bytes)) = some (some (.agg #[.int .i64 0, .int .i64 0]), 2, 16) := by kernel_rfl
theorem info_int : (Tryz.prog.info? 3).map (fun i => (i.zero, i.size, i.bytes)) = some (some (.int .i64 0), 1, 8) := by kernel_rfl
end Go.Proofs.YteclpblfleakhaaGreatDoor.Route
namespace Go.Proofs.YteclpblfleakhaaGreatDoor.Place
open Go.RowKit
set_option linter.unusedVariables false
theorem res_place {fn : Func} {p : Tmp} (h : fn.results = #[.cell p 30]) {tmps : Array Value} {w : World} {g : Nat} {x y : Value} (hp : tmps.getD p undef = .pointer (some ⟨g, 0, none⟩))
 (c0 : w.cell? ⟨g, 0, none⟩ = some x) (c1 : w.cell? ⟨g, 1, none⟩ = some y) : (results fn tmps).run Tryz.prog w = .ok (.agg #[x, y]) w := by
 have hp' : tmps[p]?.getD undef = .pointer (some ⟨g, 0, none⟩) := by simpa using hp
 simp only [results, h]
 go_simp
theorem refDist_any (ax ay bx by_ : Int) (w : World) :
 Calls Tryz.prog 66 #[.agg #[.int .i64 ax, .int .i64 ay], .agg #[.int .i64 bx, .int .i64 by_]] w fun e w' => e = .returned (.int .i64 (distV (ax, ay) (bx, by_))) ∧ Below w.heap.size w w' := by
 have hb0 : Below w.heap.size w ((w.alloc (.cells #[.int .i64 ax, .int .i64 ay] 30)).alloc (.cells #[.int .i64 bx, .int .i64 by_] 30)) := ((Below.refl _ _).alloc (Nat.le_refl _) _).alloc (by simp) _
 cases h1 : mayB (ax, ay)
 · have hd := Lib.hid (distV_no1 (b := (bx, by_)) h1)
   go_enter Tryz.func66, Tryz.ntmps66
   go_wp2_with fail
   refine (refMay_any _ _ _).mono ?_
   rintro e w1 ⟨rfl, hb1⟩
   rw [h1]
   go_wp2
   go_ret
   exact ⟨ret_int hd.out.symm, hb0.trans (hb1.mono hb0.size)⟩
 · cases h2 : mayB (bx, by_)
   · have hd := Lib.hid (distV_no2 (a := (ax, ay)) h2)
     go_enter Tryz.func66, Tryz.ntmps66
     go_wp2_with fail
     refine (refMay_any _ _ _).mono ?_
     rintro e w1 ⟨rfl, hb1⟩
     rw [h1]
     have c3 := (hb1.cell (p := ⟨w.heap.size + 1, 0, none⟩) (by simp)).trans (show _ = some (.int .i64 bx) by go_simp)
     have c4 := (hb1.cell (p := ⟨w.heap.size + 1, 1, none⟩) (by simp)).trans (show _ = some (.int .i64 by_) by go_simp)
     go_wp2_with fail
     refine (refMay_any _ _ _).mono ?_
     rintro e w2 ⟨rfl, hb2⟩
     rw [h2]
     go_wp2
     go_ret
     exact ⟨ret_int hd.out.symm, (hb0.trans (hb1.mono hb0.size)).trans (hb2.mono (hb0.trans (hb1.mono hb0.size)).size)⟩
   · have hd := Lib.hid (distV_yes h1 h2)
     have m1 := (mayB_iff _).1 h1
     have m2 := (mayB_iff _).1 h2
     simp only at m1 m2
     go_enter Tryz.func66, Tryz.ntmps66
     go_wp2_with fail
     refine (refMay_any _ _ _).mono ?_
     rintro e w1 ⟨rfl, hb1⟩
     rw [h1]
     have c3 := (hb1.cell (p := ⟨w.heap.size + 1, 0, none⟩) (by simp)).trans (show _ = some (.int .i64 bx) by go_simp)
     have c4 := (hb1.cell (p := ⟨w.heap.size + 1, 1, none⟩) (by simp)).trans (show _ = some (.int .i64 by_) by go_simp)
     go_wp2_with fail
     refine (refMay_any _ _ _).mono ?_
     rintro e w2 ⟨rfl, hb2⟩
     rw [h2]
     have d1 := (hb2.cell (p := ⟨w.heap.size, 0, none⟩) (Nat.lt_of_lt_of_le (by simp; omega) hb1.size)).trans ((hb1.cell (p := ⟨w.heap.size, 0, none⟩) (by simp; omega)).trans (show _ = some (.int .i64 ax) by go_simp))
     have d2 := (hb2.cell (p := ⟨w.heap.size, 1, none⟩) (Nat.lt_of_lt_of_le (by simp; omega) hb1.size)).trans ((hb1.cell (p := ⟨w.heap.size, 1, none⟩) (by simp; omega)).trans (show _ = some (.int .i64 ay) by go_simp))
     have d3 := (hb2.cell (p := ⟨w.heap.size + 1, 0, none⟩) (Nat.lt_of_lt_of_le (by simp) hb1.size)).trans c3
     have d4 := (hb2.cell (p := ⟨w.heap.size + 1, 1, none⟩) (Nat.lt_of_lt_of_le (by simp) hb1.size)).trans c4
     clear c3 c4
     have hB : Below w.heap.size w w2 := (hb0.trans (hb1.mono hb0.size)).trans (hb2.mono (hb0.trans (hb1.mono hb0.size)).size)
     have g1 := gap_side m1.1 m2.1
     have g2 := gap_side m1.2 m2.2
     clear hb1 hb2 hb0
     go_wp2
     go_quiet ((go_at_call 85; refine Calls.quiet_of_same (refApart_any _ _ (by omega) (by omega) _)))
     go_wp2
     go_ret
     exact ⟨ret_int hd.out.symm, below_drewN hB nq⟩
end Go.Proofs.YteclpblfleakhaaGreatDoor.Place

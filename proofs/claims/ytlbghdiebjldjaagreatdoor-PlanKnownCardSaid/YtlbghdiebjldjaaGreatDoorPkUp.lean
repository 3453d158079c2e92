import Derived.Test.YtlbghdiebjldjaaGreatDoorPkShelf
import Derived.Test.YtlbghdiebjldjaaGreatDoorPkPlaceMath
import Derived.RangeFuncNested

namespace Go.Proofs.YtlbghdiebjldjaaGreatDoor.Up
open Go.RowKit
set_option linter.unusedVariables false
structure Kept (B : Nat) (W W' : World) : Prop where
 size : W.heap.size ≤ W'.heap.size
 same : ∀ k, B ≤ k → k < W.heap.size → W'.heap[k]? = W.heap[k]?
theorem Kept.refl (B : Nat) (W : World) : Kept B W W := ⟨Nat.le_refl _, fun _ _ _ => rfl⟩
theorem Kept.trans {B : Nat} {X Y Z : World} (h : Kept B X Y) (k : Kept B Y Z) : Kept B X Z :=
 ⟨Nat.le_trans h.size k.size, fun i hB hi => (k.same i hB (Nat.lt_of_lt_of_le hi h.size)).trans (h.same i hB hi)⟩
theorem Kept.grown {B : Nat} {W W' : World} {row : Option Nat} (h : W.grownBy W' row) (hr : ∀ r, row = some r → r < B) : Kept B W W' :=
 ⟨h.size, fun k hB hk => h.block k hk (fun e => by have := hr k e.symm; omega)⟩
theorem Kept.alloc (B : Nat) (W : World) (o : Obj) : Kept B W (W.alloc o) := .grown (World.grownBy_alloc W o none) (fun r e => by cases e)
theorem Kept.setCell {B : Nat} (W : World) {b i : Nat} (h : b < B) (v : Value) : Kept B W (W.setCell ⟨b, i, none⟩ v) :=
 ⟨by simp, fun k hB hk => Below.heap_setCell W _ v k (by simp; omega)⟩
theorem Kept.mono {B C : Nat} {W W' : World} (h : Kept B W W') (hc : B ≤ C) : Kept C W W' := ⟨h.size, fun k hk hs => h.same k (Nat.le_trans hc hk) hs⟩
def Old {β : Type} (B : Nat) (J : β → World → Prop) : Prop := ∀ s A A' row, J s A → A.grownBy A' row → (∀ r, row = some r → B ≤ r ∧ ∃ o, A.heap[r]? = some o ∧ o.isCells = false) → J s A'
theorem Old.mono {β : Type} {B C : Nat} {J : β → World → Prop} (h : Old B J) (hc : B ≤ C) : Old C J := fun s A A' row hs hg hr => h s A A' row hs hg (fun r e => ⟨Nat.le_trans hc (hr r e).1, (hr r e).2⟩)
theorem Old.new {β : Type} {B : Nat} {J : β → World → Prop} (h : Old B J) {s : β} {A : World} (hs : J s A) (o : Obj) : J s (A.alloc o) := h s A _ none hs (World.grownBy_alloc A o none) (fun r e => by cases e)
theorem roundAny {m m' : Nat} {P : Program} {l : Nat} {f : FuncId} {tmps : Array Value} {assign body : Code} {w : World} {R : Ending → World → Prop} (h : RoundIn Fence.wide m P l f tmps assign body w R) :
 RoundIn Fence.wide m' P l f tmps assign body w R := ⟨h.1, fun c cs _ => h.2 c cs (room_wide _)⟩
theorem yieldAny {m : Nat} (m' : Nat) {P : Program} {l : Nat} {args : Array Value} {W : World} {R : Ending → World → Prop} (h : YieldAt Fence.wide m P l args W R) : YieldAt Fence.wide m' P l args W R := by
 obtain ⟨fn, tmps, assign, body, hy, hR⟩ := h
 exact ⟨fn, tmps, assign, body, hy, roundAny hR⟩
def upTo {α : Type} (good : α → Bool) : List α → List α
 | [] => []
 | x :: xs => x :: if good x then upTo good xs else []
theorem upTo_append {α : Type} {good : α → Bool} : ∀ {pre rest : List α}, (∀ y ∈ pre, good y = true) → upTo good (pre ++ rest) = pre ++ upTo good rest
 | [], _, _ => rfl
 | x :: pre, rest, h => by
  have h1 := h x (List.mem_cons_self ..)
  rw [List.cons_append, upTo, h1, if_pos rfl, upTo_append (fun y hy => h y (List.mem_cons_of_mem _ hy)), List.cons_append]
theorem upTo_bad {α : Type} {good : α → Bool} {x : α} (h : good x = false) (xs : List α) : upTo good (x :: xs) = [x] := by rw [upTo, h]; rfl
theorem upTo_good {α : Type} {good : α → Bool} {x : α} (h : good x = true) (xs : List α) : upTo good (x :: xs) = x :: upTo good xs := by rw [upTo, h]; rfl
theorem upTo_all {α : Type} {good : α → Bool} {xs : List α} (h : ∀ y ∈ xs, good y = true) : upTo good xs = xs := by
 have := upTo_append (rest := []) h
 simpa [upTo] using this
theorem good_snoc {α : Type} {good : α → Bool} {pre : List α} {x : α} (h : ∀ y ∈ pre, good y = true) (hx : good x = true) : ∀ y ∈ pre ++ [x], good y = true := by
 intro y hy
 rcases List.mem_append.1 hy with hy | hy
 · exact h y hy
 · obtain rfl := List.mem_singleton.1 hy
   exact hx
theorem upTo_ext {α : Type} {good : α → Bool} : ∀ {xs : List α}, (∀ y ∈ upTo good xs, good y = true) → ∀ y ∈ xs, good y = true
 | [], _, y, hy => by cases hy
 | x :: xs, h, y, hy => by
  have hx := h x (by rw [upTo]; exact List.mem_cons_self ..)
  rcases List.mem_cons.1 hy with rfl | hy
  · exact hx
  · refine upTo_ext (xs := xs) (fun z hz => h z ?_) y hy
    rw [upTo_good hx]
    exact List.mem_cons_of_mem _ hz
def upPost (good : Bool) (R : World → Prop) : Exit → Act → World → Prop
 | .normal, _, w => good = true ∧ R w
 | .ret, _, w => good = false ∧ R w
 | _, _, _ => False
def Marks (ds : List Nat) (W : World) : Prop := ∀ d ∈ ds, W.heap[d]? = some (.deferred (some []))
def mark (d : Nat) : Deferred := { target := .collected d, args := #[] }
theorem Marks.inside {ds : List Nat} {W : World} (h : Marks ds W) {d : Nat} (hd : d ∈ ds) : d < W.heap.size := (Array.getElem?_eq_some_iff.1 (h d hd)).1
theorem Marks.same {ds : List Nat} {W W' : World} (h : Marks ds W) (hs : ∀ d ∈ ds, W'.heap[d]? = W.heap[d]?) : Marks ds W' := fun d hd => (hs d hd).trans (h d hd)
theorem Marks.kept {ds : List Nat} {B : Nat} {W W' : World} (h : Marks ds W) (hk : Kept B W W') (hB : ∀ d ∈ ds, B ≤ d) : Marks ds W' := h.same fun d hd => hk.same d (hB d hd) (h.inside hd)
theorem Marks.old {ds : List Nat} {W A : World} {row : Option Nat} (h : Marks ds W) (hg : W.grownBy A row) {n : Nat} (hr : ∀ r, row = some r → n ≤ r) (hn : ∀ d ∈ ds, d < n) : Marks ds A :=
 h.same fun d hd => hg.block d (h.inside hd) (fun e => by have := hr d e.symm; have := hn d hd; omega)
theorem Marks.cons {ds : List Nat} {d : Nat} {W : World} (h : Marks ds W) (hd : W.heap[d]? = some (.deferred (some []))) : Marks (d :: ds) W := by
 intro e he
 rcases List.mem_cons.1 he with rfl | he
 · exact hd
 · exact h e he
end Go.Proofs.YtlbghdiebjldjaaGreatDoor.Up
namespace Go.Proofs.YtlbghdiebjldjaaGreatDoor.When
open Go.Proofs.YtlbghdiebjldjaaGreatDoor.Order Go.Proofs.YtlbghdiebjldjaaGreatDoor.Place Go.Proofs.YtlbghdiebjldjaaGreatDoor.Window Go.Proofs.YtlbghdiebjldjaaGreatDoor.Up
set_option linter.unusedVariables false
structure Rq where (fx fy tx ty pe pl de dl ld sv : Int)
structure Vh where (hx hy cp st en : Int)
structure Vi where (px py we wl sv : Int)
structure Tm where (ar be lv : Int)
deriving DecidableEq
structure Sp where (now px py : Int)
def Rq.chk (q : Rq) : Int := Order.chk q.fx q.fy q.tx q.ty q.pe q.pl q.de q.dl q.ld q.sv
def Vh.chk (h : Vh) : Int := Order.veh h.hx h.hy h.cp h.st h.en
def noVi : Vi := ⟨0, 0, 0, 0, 0⟩
def inT (t : List Rq) (r : Int) : Bool := decide (0 ≤ r) && decide (r < t.length)
def visO (t : List Rq) (s : Int × Int) : Option Vi :=
 if inT t s.1 then
  match t[s.1.toNat]? with
  | some q => if s.2 = 0 then some ⟨q.fx, q.fy, q.pe, q.pl, q.sv⟩ else if s.2 = 1 then some ⟨q.tx, q.ty, q.de, q.dl, q.sv⟩ else none
  | none => none
 else none
def visV (t : List Rq) (s : Int × Int) : Vi := (visO t s).getD noVi
def visB (t : List Rq) (s : Int × Int) : Bool := (visO t s).isSome
theorem visO_out {t : List Rq} {s : Int × Int} (h : inT t s.1 = false) : visO t s = none := by simp [visO, h]
theorem visO_pick {t : List Rq} {s : Int × Int} {q : Rq} (h : inT t s.1 = true) (hq : t[s.1.toNat]? = some q) (h0 : s.2 = 0) : visO t s = some ⟨q.fx, q.fy, q.pe, q.pl, q.sv⟩ := by simp [visO, h, hq, h0]
theorem visO_drop {t : List Rq} {s : Int × Int} {q : Rq} (h : inT t s.1 = true) (hq : t[s.1.toNat]? = some q) (h0 : s.2 = 1) : visO t s = some ⟨q.tx, q.ty, q.de, q.dl, q.sv⟩ := by simp [visO, h, hq, h0]
theorem inT_get {t : List Rq} {r : Int} (h : inT t r = true) : ∃ q, t[r.toNat]? = some q ∧ 0 ≤ r ∧ r < t.length := by
 simp only [inT, Bool.and_eq_true, decide_eq_true_eq] at h
 exact ⟨t[r.toNat]'(by omega), List.getElem?_eq_getElem (by omega), h.1, h.2⟩
theorem visO_odd {t : List Rq} {s : Int × Int} (h0 : s.2 ≠ 0) (h1 : s.2 ≠ 1) : visO t s = none := by
 cases hi : inT t s.1
 · exact visO_out hi
 · obtain ⟨q, hq, _⟩ := inT_get hi
   unfold visO
   rw [if_pos hi, hq]
   simp [h0, h1]
theorem visO_some {t : List Rq} {s : Int × Int} {x : Vi} (h : visO t s = some x) : ∃ q, t[s.1.toNat]? = some q ∧ 0 ≤ s.1 ∧ s.1 < t.length ∧ x.sv = q.sv ∧ (s.2 = 0 ∧ x = ⟨q.fx, q.fy, q.pe, q.pl, q.sv⟩ ∨ s.2 = 1 ∧ x = ⟨q.tx, q.ty, q.de, q.dl, q.sv⟩) := by
 cases hi : inT t s.1
 · rw [visO_out hi] at h; cases h
 · obtain ⟨q, hq, h1, h2⟩ := inT_get hi
   by_cases h0 : s.2 = 0
   · rw [visO_pick hi hq h0] at h; cases h
     exact ⟨q, hq, h1, h2, rfl, .inl ⟨h0, rfl⟩⟩
   · by_cases h3 : s.2 = 1
     · rw [visO_drop hi hq h3] at h; cases h
       exact ⟨q, hq, h1, h2, rfl, .inr ⟨h3, rfl⟩⟩
     · rw [visO_odd h0 h3] at h; cases h
def wrongV (v : Vh) (l : List (Int × Int)) (t : List Rq) : Int :=
 if v.chk ≠ 0 then 2 else if t.any (fun q => decide (q.chk ≠ 0)) then 2 else if Route.checkV l ≠ 0 then 8 else if l.any (fun s => !visB t s) then 8 else 0
def arV (a : Sp) (x : Vi) : Int := a.now + distV (a.px, a.py) (x.px, x.py)
def inB (a : Sp) (x : Vi) : Bool := waitB x.we x.wl (arV a x)
def beV (a : Sp) (x : Vi) : Int := waitV x.we x.wl (arV a x)
def tmV (a : Sp) (x : Vi) : Tm := ⟨arV a x, beV a x, beV a x + x.sv⟩
def goV (a : Sp) (x : Vi) : Sp := ⟨beV a x + x.sv, x.px, x.py⟩
def good (y : Sp × Vi) : Bool := inB y.1 y.2
def stepsL : Sp → List Vi → List (Sp × Vi)
 | _, [] => []
 | a, x :: xs => (a, x) :: stepsL (goV a x) xs
def endA (a : Sp) (xs : List Vi) : Sp := xs.foldl goV a
def tmsL (ys : List (Sp × Vi)) : List Tm := ys.map fun y => tmV y.1 y.2
def allB (a : Sp) (xs : List Vi) : Bool := (stepsL a xs).all good
theorem stepsL_vis : ∀ (a : Sp) (xs : List Vi), (stepsL a xs).map (·.2) = xs
 | _, [] => rfl
 | a, x :: xs => by simp [stepsL, stepsL_vis]
theorem stepsL_length (a : Sp) (xs : List Vi) : (stepsL a xs).length = xs.length := by
 have := congrArg List.length (stepsL_vis a xs)
 simpa using this
theorem stepsL_append : ∀ (a : Sp) (xs ys : List Vi), stepsL a (xs ++ ys) = stepsL a xs ++ stepsL (endA a xs) ys
 | _, [], _ => rfl
 | a, x :: xs, ys => by simp [stepsL, endA, stepsL_append (goV a x) xs ys]
theorem endA_snoc (a : Sp) (xs : List Vi) (x : Vi) : endA a (xs ++ [x]) = goV (endA a xs) x := by simp [endA]
theorem tmsL_snoc (ys : List (Sp × Vi)) (y : Sp × Vi) : tmsL (ys ++ [y]) = tmsL ys ++ [tmV y.1 y.2] := by simp [tmsL]
theorem stepsL_get {a : Sp} : ∀ {xs : List Vi} {pre : List (Sp × Vi)} {y : Sp × Vi} {rest : List (Sp × Vi)}, stepsL a xs = pre ++ y :: rest → y.1 = endA a (pre.map (·.2)) := by
 intro xs pre y rest h
 have hv := stepsL_vis a xs
 rw [h, List.map_append, List.map_cons] at hv
 have h2 := stepsL_append a (pre.map (·.2)) (y.2 :: rest.map (·.2))
 rw [hv, h] at h2
 have hl : pre.length = (stepsL a (pre.map (·.2))).length := by rw [stepsL_length]; simp
 have h3 := (List.append_inj h2 hl).2
 rw [stepsL] at h3
 injection h3 with h4 _
 rw [h4]
def sp0 (v : Vh) : Sp := ⟨v.st, v.hx, v.hy⟩
def homeV (v : Vh) : Vi := ⟨v.hx, v.hy, 0, v.en, 0⟩
def visL (t : List Rq) (l : List (Int × Int)) : List Vi := l.map (visV t)
def rowT (v : Vh) (l : List (Int × Int)) (t : List Rq) : List Tm := tmsL (stepsL (sp0 v) (visL t l))
def endT (v : Vh) (l : List (Int × Int)) (t : List Rq) : Int := arV (endA (sp0 v) (visL t l)) (homeV v)
def okT (v : Vh) (l : List (Int × Int)) (t : List Rq) : Bool := allB (sp0 v) (visL t l) && decide (endT v l t ≤ v.en)
def errT (v : Vh) (l : List (Int × Int)) (t : List Rq) : Int := if wrongV v l t ≠ 0 then wrongV v l t else if okT v l t then 0 else 9
def timesL (v : Vh) (l : List (Int × Int)) (t : List Rq) : List Tm := if errT v l t = 0 then rowT v l t else []
def homeT (v : Vh) (l : List (Int × Int)) (t : List Rq) : Int := if errT v l t = 0 then endT v l t else 0
theorem wrong_bits (v : Vh) (l : List (Int × Int)) (t : List Rq) : wrongV v l t = 0 → v.chk = 0 ∧ (∀ q ∈ t, q.chk = 0) ∧ Route.checkV l = 0 ∧ ∀ s ∈ l, ∃ x, visO t s = some x := by
 unfold wrongV
 intro h
 split at h
 · omega
 rename_i h1
 split at h
 · omega
 rename_i h2
 split at h
 · omega
 rename_i h3
 split at h
 · omega
 rename_i h4
 refine ⟨by omega, fun q hq => ?_, by omega, fun s hs => ?_⟩
 · simp at h2
   exact h2 q hq
 · simp [visB] at h4
   have := h4 s.1 s.2 hs
   exact Option.ne_none_iff_exists'.1 this
end Go.Proofs.YtlbghdiebjldjaaGreatDoor.When
namespace Go.Proofs.YtlbghdiebjldjaaGreatDoor.Load
open Go.Proofs.YtlbghdiebjldjaaGreatDoor.Order Go.Proofs.YtlbghdiebjldjaaGreatDoor.Place Go.Proofs.YtlbghdiebjldjaaGreatDoor.Route Go.Proofs.YtlbghdiebjldjaaGreatDoor.When
set_option linter.unusedVariables false
def ins (n : Int) : List Int → List Int
 | [] => [n]
 | x :: xs => if x < n then x :: ins n xs else n :: x :: xs
def Rise (l : List Int) : Prop := l.Pairwise (· < ·)
theorem mem_ins {n r : Int} : ∀ {l : List Int}, r ∈ ins n l ↔ r = n ∨ r ∈ l
 | [] => by simp [ins]
 | x :: xs => by
  unfold ins
  split
  · rw [List.mem_cons, mem_ins, List.mem_cons]
    exact ⟨fun h => by rcases h with h | h | h <;> simp [h], fun h => by rcases h with h | h | h <;> simp [h]⟩
  · rw [List.mem_cons]
theorem ins_length (n : Int) : ∀ l : List Int, (ins n l).length = l.length + 1
 | [] => rfl
 | x :: xs => by
  unfold ins
  split
  · simp [ins_length n xs]
  · simp
theorem rise_ins {n : Int} : ∀ {l : List Int}, Rise l → n ∉ l → Rise (ins n l)
 | [], _, _ => by simp [ins, Rise]
 | x :: xs, h, hn => by
  obtain ⟨h1, h2⟩ := List.pairwise_cons.1 h
  unfold ins
  split
  · rename_i hx
    refine List.pairwise_cons.2 ⟨fun y hy => ?_, rise_ins h2 (fun hm => hn (List.mem_cons_of_mem _ hm))⟩
    rcases mem_ins.1 hy with rfl | hy
    · exact hx
    · exact h1 y hy
  · rename_i hx
    have hne : x ≠ n := fun e => hn (by rw [e]; exact List.mem_cons_self ..)
    refine List.pairwise_cons.2 ⟨fun y hy => ?_, h⟩
    rcases List.mem_cons.1 hy with rfl | hy
    · omega
    · have := h1 y hy; omega
theorem rise_ext : ∀ {a b : List Int}, Rise a → Rise b → (∀ r, r ∈ a ↔ r ∈ b) → a = b
 | [], [], _, _, _ => rfl
 | [], y :: b, _, _, h => by have := (h y).2 (List.mem_cons_self ..); cases this
 | x :: a, [], _, _, h => by have := (h x).1 (List.mem_cons_self ..); cases this
 | x :: a, y :: b, ha, hb, h => by
  obtain ⟨a1, a2⟩ := List.pairwise_cons.1 ha
  obtain ⟨b1, b2⟩ := List.pairwise_cons.1 hb
  have hxy : x = y := by
   rcases List.mem_cons.1 ((h x).1 (List.mem_cons_self ..)) with e | e
   · exact e
   · rcases List.mem_cons.1 ((h y).2 (List.mem_cons_self ..)) with e2 | e2
     · exact e2.symm
     · have := b1 x e; have := a1 y e2; omega
  subst hxy
  rw [rise_ext a2 b2 fun r => ?_]
  constructor
  · intro hr
    rcases List.mem_cons.1 ((h r).1 (List.mem_cons_of_mem _ hr)) with e | e
    · have := a1 r hr; omega
    · exact e
  · intro hr
    rcases List.mem_cons.1 ((h r).2 (List.mem_cons_of_mem _ hr)) with e | e
    · have := b1 r hr; omega
    · exact e
def opS (b : Bool) (k : Int) : Bool := if k = 0 then true else if k = 1 then false else b
def opB (l : List (Int × Int)) (r : Int) : Bool := l.foldl (fun b s => if s.1 = r then opS b s.2 else b) false
theorem opB_snoc (l : List (Int × Int)) (s : Int × Int) (r : Int) : opB (l ++ [s]) r = if s.1 = r then opS (opB l r) s.2 else opB l r := by simp [opB]
theorem fold_ofR (r : Int) : ∀ (l : List (Int × Int)) (b : Bool), l.foldl (fun b s => if s.1 = r then opS b s.2 else b) b = (ofR r l).foldl (fun b s => if s.1 = r then opS b s.2 else b) b
 | [], b => rfl
 | s :: l, b => by
  by_cases h : s.1 = r
  · rw [ofR_cons_same h, List.foldl_cons, List.foldl_cons, fold_ofR r l]
  · rw [ofR_cons_other h, List.foldl_cons, if_neg h, fold_ofR r l]
theorem opB_ofR (l : List (Int × Int)) (r : Int) : opB l r = opB (ofR r l) r := fold_ofR r l false
theorem opB_mem {l : List (Int × Int)} {r : Int} (h : opB l r = true) : noR r l = false := by
 cases hn : noR r l
 · rfl
 · rw [opB_ofR, noR_ofR.1 hn] at h
   cases h
def pkB (l : List (Int × Int)) (r : Int) : Bool := l.any fun s => decide (s.1 = r) && decide (s.2 = 0)
def dpB (l : List (Int × Int)) (r : Int) : Bool := l.foldl (fun b s => if s.1 = r then (if s.2 = 0 then false else if s.2 = 1 then true else b) else b) false
theorem pkB_snoc (l : List (Int × Int)) (s : Int × Int) (r : Int) : pkB (l ++ [s]) r = (pkB l r || (decide (s.1 = r) && decide (s.2 = 0))) := by simp [pkB]
theorem dpB_snoc (l : List (Int × Int)) (s : Int × Int) (r : Int) : dpB (l ++ [s]) r = if s.1 = r then (if s.2 = 0 then false else if s.2 = 1 then true else dpB l r) else dpB l r := by simp [dpB]
theorem snoc_ind {α : Type} {P : List α → Prop} (h0 : P []) (h1 : ∀ l s, P l → P (l ++ [s])) (l : List α) : P l := by
 have : ∀ l : List α, P l.reverse := by
  intro l
  induction l with
  | nil => exact h0
  | cons s l ih => rw [List.reverse_cons]; exact h1 _ _ ih
 have h := this l.reverse
 rwa [List.reverse_reverse] at h
theorem opB_pd (l : List (Int × Int)) (r : Int) : opB l r = (pkB l r && !dpB l r) := by
 induction l using snoc_ind with
 | h0 => rfl
 | h1 l s ih =>
  rw [opB_snoc, pkB_snoc, dpB_snoc, ih]
  by_cases h : s.1 = r
  · rw [if_pos h, if_pos h]
    unfold opS
    by_cases h0 : s.2 = 0
    · simp [h, h0]
    · by_cases h2 : s.2 = 1
      · simp [h, h2]
      · simp [h, h0, h2]
  · simp [h]
def opT (l : List (Int × Int)) : Nat → List Int
 | 0 => []
 | i + 1 => match l[i]? with
  | some s => if noR s.1 (l.take i) && opB l s.1 then ins s.1 (opT l i) else opT l i
  | none => opT l i
def opL (l : List (Int × Int)) : List Int := opT l l.length
theorem opT_yes {l : List (Int × Int)} {i : Nat} {s : Int × Int} (h : l[i]? = some s) (hb : (noR s.1 (l.take i) && opB l s.1) = true) : opT l (i + 1) = ins s.1 (opT l i) := by rw [opT, h]; simp only; rw [if_pos hb]
theorem opT_no {l : List (Int × Int)} {i : Nat} {s : Int × Int} (h : l[i]? = some s) (hb : (noR s.1 (l.take i) && opB l s.1) = false) : opT l (i + 1) = opT l i := by rw [opT, h]; simp only; rw [hb]; rfl
theorem take_get {α : Type} {l : List α} {k : Nat} {s : α} (h : l[k]? = some s) : l.take (k + 1) = l.take k ++ [s] := by rw [List.take_add_one, h]; rfl
theorem noR_snoc (r : Int) (l : List (Int × Int)) (s : Int × Int) : noR r (l ++ [s]) = (noR r l && decide (s.1 ≠ r)) := by simp [noR]
theorem opT_tells (l : List (Int × Int)) : ∀ i, i ≤ l.length → Rise (opT l i) ∧ (∀ r, r ∈ opT l i ↔ opB l r = true ∧ noR r (l.take i) = false) ∧ (opT l i).length ≤ i
 | 0, _ => ⟨List.Pairwise.nil, fun r => by simp [opT, noR], Nat.zero_le _⟩
 | i + 1, h => by
  obtain ⟨h1, h2, h3⟩ := opT_tells l i (by omega)
  have hs : l[i]? = some l[i] := List.getElem?_eq_getElem (by omega)
  have ht := take_get hs
  generalize l[i] = s at hs ht
  cases hb : (noR s.1 (l.take i) && opB l s.1)
  · rw [opT_no hs hb, ht]
    refine ⟨h1, fun r => ?_, by omega⟩
    rw [h2 r, noR_snoc]
    constructor
    · rintro ⟨a, b⟩; exact ⟨a, by rw [b]; rfl⟩
    · rintro ⟨a, b⟩
      refine ⟨a, ?_⟩
      by_cases e : s.1 = r
      · subst e
        rw [a, Bool.and_true] at hb
        exact hb
      · simpa [e] using b
  · rw [opT_yes hs hb, ht]
    rw [Bool.and_eq_true] at hb
    refine ⟨rise_ins h1 (fun hm => by have := ((h2 _).1 hm).2; rw [hb.1] at this; cases this), fun r => ?_, by rw [ins_length]; omega⟩
    rw [mem_ins, h2 r, noR_snoc]
    constructor
    · rintro (rfl | ⟨a, b⟩)
      · exact ⟨hb.2, by simp⟩
      · exact ⟨a, by rw [b]; rfl⟩
    · rintro ⟨a, b⟩
      by_cases e : s.1 = r
      · exact .inl e.symm
      · exact .inr ⟨a, by simpa [e] using b⟩
theorem opL_rise (l : List (Int × Int)) : Rise (opL l) := (opT_tells l _ (Nat.le_refl _)).1
theorem mem_opL {l : List (Int × Int)} {r : Int} : r ∈ opL l ↔ opB l r = true := by
 unfold opL
 rw [(opT_tells l _ (Nat.le_refl _)).2.1 r, List.take_length]
 exact ⟨fun h => h.1, fun h => ⟨h, opB_mem h⟩⟩
theorem opL_length (l : List (Int × Int)) : (opL l).length ≤ l.length := (opT_tells l _ (Nat.le_refl _)).2.2
theorem opL_eq {l : List (Int × Int)} {a : List Int} (ha : Rise a) (h : ∀ r, r ∈ a ↔ opB l r = true) : a = opL l := rise_ext ha (opL_rise l) fun r => (h r).trans mem_opL.symm
def kN (l : List (Int × Int)) (k : Int) : Nat := (min (max k 0) (l.length : Int)).toNat
def opAt (l : List (Int × Int)) (k : Int) : List Int := opL (l.take (kN l k))
def ldR (t : List Rq) (r : Int) : Int := ((t[r.toNat]?).map Rq.ld).getD 0
def sg (k : Int) : Int := if k = 0 then 1 else -1
def stN (t : List Rq) (s : Int × Int) : Int := sg s.2 * ldR t s.1
def acc (t : List Rq) : List (Int × Int) → Int
 | [] => 0
 | s :: l => stN t s + acc t l
def sumL (t : List Rq) : List Int → Int
 | [] => 0
 | r :: l => ldR t r + sumL t l
theorem acc_append (t : List Rq) : ∀ a b : List (Int × Int), acc t (a ++ b) = acc t a + acc t b
 | [], b => by simp [acc]
 | s :: a, b => by rw [List.cons_append, acc, acc, acc_append t a b]; omega
theorem acc_snoc (t : List Rq) (a : List (Int × Int)) (s : Int × Int) : acc t (a ++ [s]) = acc t a + stN t s := by rw [acc_append]; simp [acc]
theorem sumL_append (t : List Rq) : ∀ a b : List Int, sumL t (a ++ b) = sumL t a + sumL t b
 | [], b => by simp [sumL]
 | s :: a, b => by rw [List.cons_append, sumL, sumL, sumL_append t a b]; omega
theorem sumL_snoc (t : List Rq) (a : List Int) (r : Int) : sumL t (a ++ [r]) = sumL t a + ldR t r := by rw [sumL_append]; simp [sumL]
theorem sumL_ins (t : List Rq) (r : Int) : ∀ a : List Int, sumL t (ins r a) = ldR t r + sumL t a
 | [] => rfl
 | x :: a => by
  unfold ins
  split
  · rw [sumL, sumL, sumL_ins t r a]; omega
  · rfl
def prof (t : List Rq) (l : List (Int × Int)) : List Int := (List.range l.length).map fun k => acc t (l.take (k + 1))
theorem prof_length (t : List Rq) (l : List (Int × Int)) : (prof t l).length = l.length := by simp [prof]
theorem prof_get {t : List Rq} {l : List (Int × Int)} {k : Nat} (h : k < l.length) : (prof t l)[k]? = some (acc t (l.take (k + 1))) := by simp [prof, h]
def peakL (p : List Int) : Int := p.foldl max 0
theorem peakL_snoc (p : List Int) (x : Int) : peakL (p ++ [x]) = max (peakL p) x := by simp [peakL]
def fstF (c : Int) : Nat → List Int → Int
 | _, [] => -1
 | k, x :: p => if c < x then k else fstF c (k + 1) p
def fstV (c : Int) (p : List Int) : Int := fstF c 0 p
theorem fstF_at {c x : Int} (hx : c < x) : ∀ {p q : List Int} {k : Nat}, (∀ y ∈ p, y ≤ c) → fstF c k (p ++ x :: q) = (k + p.length : Nat)
 | [], q, k, _ => by rw [List.nil_append, fstF, if_pos hx]; simp
 | y :: p, q, k, h => by
  have := h y (List.mem_cons_self ..)
  rw [List.cons_append, fstF, if_neg (by omega), fstF_at hx (fun z hz => h z (List.mem_cons_of_mem _ hz))]
  simp
  omega
theorem fstF_no {c : Int} : ∀ {p : List Int} {k : Nat}, (∀ y ∈ p, y ≤ c) → fstF c k p = -1
 | [], k, _ => rfl
 | y :: p, k, h => by
  have := h y (List.mem_cons_self ..)
  rw [fstF, if_neg (by omega), fstF_no (fun z hz => h z (List.mem_cons_of_mem _ hz))]
def moreB (c : Int) (p : List Int) : Bool := p.any fun x => decide (c < x)
def outB (t : List Rq) (r : Int) : Bool := decide ((t.length : Int) ≤ r)
def badB (t : List Rq) (r : Int) : Bool := match t[r.toNat]? with | some q => decide (q.chk ≠ 0) | none => false
def toldV (l : List (Int × Int)) (t : List Rq) : Int :=
 if checkV l ≠ 0 then checkV l else if l.any (fun s => outB t s.1) then 8 else if l.any (fun s => badB t s.1) then 2 else 0
def profV (l : List (Int × Int)) (t : List Rq) : List Int := if toldV l t = 0 then prof t l else []
def fitAt (v : Vh) (l : List (Int × Int)) (t : List Rq) : Int := if v.chk = 0 then fstV v.cp (profV l t) else -1
def fitE (v : Vh) (l : List (Int × Int)) (t : List Rq) : Int := if v.chk ≠ 0 then v.chk else if toldV l t ≠ 0 then toldV l t else if moreB v.cp (profV l t) then 10 else 0
theorem check_isR {l : List (Int × Int)} (h : checkV l = 0) : isR l = true ∧ l.length ≤ 16 := by
 unfold checkV at h
 split at h
 · omega
 · split at h
   · rename_i h1 h2; exact ⟨h2, by omega⟩
   · omega
theorem picks_mem {l : List (Int × Int)} (h : isR l = true) {r : Int} : r ∈ picksL l ↔ ∃ s ∈ l, s.1 = r := by
 unfold picksL
 rw [List.mem_map]
 constructor
 · rintro ⟨s, hs, rfl⟩
   exact ⟨s, (List.mem_filter.1 hs).1, rfl⟩
 · rintro ⟨s, hs, rfl⟩
   have h1 := (isR_iff.1 h s hs).2
   have h2 : ((s.1, 0) : Int × Int) ∈ ofR s.1 l := by rw [h1]; simp
   exact ⟨(s.1, 0), List.mem_filter.2 ⟨(mem_ofR.1 h2).1, by simp⟩, rfl⟩
theorem any_picks {l : List (Int × Int)} (h : isR l = true) (f : Int → Bool) : (picksL l).any f = l.any fun s => f s.1 := by
 rw [Bool.eq_iff_iff, List.any_eq_true, List.any_eq_true]
 constructor
 · rintro ⟨r, hr, hf⟩
   obtain ⟨s, hs, rfl⟩ := (picks_mem h).1 hr
   exact ⟨s, hs, hf⟩
 · rintro ⟨s, hs, hf⟩
   exact ⟨s.1, (picks_mem h).2 ⟨s, hs, rfl⟩, hf⟩
theorem told_bits {l : List (Int × Int)} {t : List Rq} (h : toldV l t = 0) : isR l = true ∧ l.length ≤ 16 ∧ ∀ s ∈ l, ∃ q, t[s.1.toNat]? = some q ∧ 0 ≤ s.1 ∧ s.1 < t.length ∧ (1 ≤ q.ld ∧ q.ld ≤ 1000) ∧ (s.2 = 0 ∨ s.2 = 1) := by
 unfold toldV at h
 split at h
 · rename_i h1; exact absurd h h1
 · rename_i h1
   obtain ⟨h2, h3⟩ := check_isR (by omega : checkV l = 0)
   split at h
   · omega
   · rename_i h4
     split at h
     · omega
     · rename_i h5
       refine ⟨h2, h3, fun s hs => ?_⟩
       have h0 := (isR_iff.1 h2 s hs)
       have ho : outB t s.1 = false := by
        cases e : outB t s.1
        · rfl
        · exact absurd (List.any_eq_true.2 ⟨s, hs, e⟩) h4
       have hb : badB t s.1 = false := by
        cases e : badB t s.1
        · rfl
        · exact absurd (List.any_eq_true.2 ⟨s, hs, e⟩) h5
       simp only [outB, decide_eq_false_iff_not] at ho
       have hlt : s.1.toNat < t.length := by omega
       have hq : t[s.1.toNat]? = some t[s.1.toNat] := List.getElem?_eq_getElem hlt
       refine ⟨_, hq, h0.1, by omega, ?_, ?_⟩
       · unfold badB at hb
         rw [hq] at hb
         simp only [decide_eq_false_iff_not, Classical.not_not] at hb
         unfold Rq.chk at hb
         exact ((chk_iff ..).1 hb).2.2.1
       · have h6 : s ∈ ofR s.1 l := mem_ofR.2 ⟨hs, rfl⟩
         rw [h0.2] at h6
         simp only [List.mem_cons, List.not_mem_nil, or_false] at h6
         rcases h6 with h6 | h6 <;> rw [h6] <;> simp
theorem ldR_get {t : List Rq} {r : Int} {q : Rq} (h : t[r.toNat]? = some q) : ldR t r = q.ld := by simp [ldR, h]
theorem acc_open {l : List (Int × Int)} (t : List Rq) (h : isR l = true) : ∀ k, k ≤ l.length → acc t (l.take k) = sumL t (opL (l.take k))
 | 0, _ => by simp [acc, opL, opT, sumL]
 | k + 1, hk => by
  have ih := acc_open t h k (by omega)
  have hs : l[k]? = some l[k] := List.getElem?_eq_getElem (by omega)
  have hm : l[k] ∈ l := List.getElem_mem _
  have hd : l = l.take k ++ l[k] :: l.drop (k + 1) := by rw [← List.drop_eq_getElem_cons (by omega), List.take_append_drop]
  have ht := take_get hs
  generalize l[k] = s at hs hm hd ht
  rw [ht, acc_snoc, ih]
  have h2 := (isR_iff.1 h s hm).2
  rcases split3 hd rfl h2 with ⟨e, hp, _⟩ | ⟨e, hp, _⟩
  · have hf : opB (l.take k) s.1 = false := by rw [opB_ofR, hp]; rfl
    have : ins s.1 (opL (l.take k)) = opL (l.take k ++ [s]) := by
     refine opL_eq (rise_ins (opL_rise _) (fun hm => by rw [mem_opL, hf] at hm; cases hm)) fun r => ?_
     rw [mem_ins, mem_opL, opB_snoc]
     have e2 : s.2 = 0 := by rw [e]
     by_cases hr : s.1 = r
     · subst hr
       rw [if_pos rfl, e2]
       simp [opS]
     · rw [if_neg hr]
       exact ⟨fun h => by rcases h with h | h; exact absurd h.symm hr; exact h, .inr⟩
    rw [← this, sumL_ins]
    have e2 : s.2 = 0 := by rw [e]
    unfold stN sg
    rw [if_pos e2]
    omega
  · have hf : opB (l.take k) s.1 = true := by rw [opB_ofR, hp]; simp [opB, opS]
    have e2 : s.2 = 1 := by rw [e]
    have hno : opB (l.take k ++ [s]) s.1 = false := by rw [opB_snoc, if_pos rfl, e2]; simp [opS]
    have : ins s.1 (opL (l.take k ++ [s])) = opL (l.take k) := by
     refine opL_eq (rise_ins (opL_rise _) (fun hm => by rw [mem_opL, hno] at hm; cases hm)) fun r => ?_
     rw [mem_ins, mem_opL, opB_snoc]
     by_cases hr : s.1 = r
     · subst hr
       rw [hf]
       simp
     · rw [if_neg hr]
       exact ⟨fun h => by rcases h with h | h; exact absurd h.symm hr; exact h, .inr⟩
    rw [← this, sumL_ins]
    unfold stN sg
    rw [if_neg (by omega)]
    omega
theorem sumL_bd {t : List Rq} : ∀ {o : List Int}, (∀ r ∈ o, 0 ≤ ldR t r ∧ ldR t r ≤ 1000) → 0 ≤ sumL t o ∧ sumL t o ≤ 1000 * o.length
 | [], _ => by simp [sumL]
 | r :: o, h => by
  have h1 := h r (List.mem_cons_self ..)
  have h2 := sumL_bd (t := t) (fun x hx => h x (List.mem_cons_of_mem _ hx))
  rw [sumL, List.length_cons]
  omega
theorem opL_of {l : List (Int × Int)} {r : Int} (h : r ∈ opL l) : ∃ s ∈ l, s.1 = r := by
 have := opB_mem (mem_opL.1 h)
 cases hh : decide (∃ s ∈ l, s.1 = r)
 · exfalso
   have h2 : noR r l = true := noR_iff.2 fun s hs e => (of_decide_eq_false hh) ⟨s, hs, e⟩
   rw [h2] at this
   cases this
 · exact of_decide_eq_true hh
theorem ld_bd {l : List (Int × Int)} {t : List Rq} (h : toldV l t = 0) {s : Int × Int} (hs : s ∈ l) : 1 ≤ ldR t s.1 ∧ ldR t s.1 ≤ 1000 := by
 obtain ⟨q, hq, _, _, h5, _⟩ := (told_bits h).2.2 s hs
 rw [ldR_get hq]
 exact h5
theorem open_bd {l : List (Int × Int)} {t : List Rq} (h : toldV l t = 0) (k : Nat) : ∀ r ∈ opL (l.take k), 1 ≤ ldR t r ∧ ldR t r ≤ 1000 := fun r hr => by
 obtain ⟨s, hs, rfl⟩ := opL_of hr
 exact ld_bd h (List.mem_of_mem_take hs)
theorem open_len {l : List (Int × Int)} {t : List Rq} (h : toldV l t = 0) (k : Nat) : (opL (l.take k)).length ≤ 16 := by
 have := opL_length (l.take k)
 have h2 := (told_bits h).2.1
 rw [List.length_take] at this
 omega
theorem acc_bd {l : List (Int × Int)} {t : List Rq} (h : toldV l t = 0) {k : Nat} (hk : k ≤ l.length) : 0 ≤ acc t (l.take k) ∧ acc t (l.take k) ≤ 16000 := by
 rw [acc_open t (told_bits h).1 k hk]
 have h1 := sumL_bd (t := t) (o := opL (l.take k)) (fun r hr => by have := open_bd h k r hr; omega)
 have h2 := open_len h k
 omega
theorem acc_last {l : List (Int × Int)} (t : List Rq) (h : isR l = true) : acc t l = 0 := by
 have h1 := acc_open t h l.length (Nat.le_refl _)
 rw [List.take_length] at h1
 rw [h1]
 have : opL l = [] := by
  cases e : opL l with
  | nil => rfl
  | cons r o =>
   exfalso
   have hr : r ∈ opL l := by rw [e]; exact List.mem_cons_self ..
   obtain ⟨s, hs, rfl⟩ := opL_of hr
   have h2 := mem_opL.1 hr
   rw [opB_ofR, (isR_iff.1 h s hs).2] at h2
   simp [opB, opS] at h2
 rw [this]
 rfl
end Go.Proofs.YtlbghdiebjldjaaGreatDoor.Load

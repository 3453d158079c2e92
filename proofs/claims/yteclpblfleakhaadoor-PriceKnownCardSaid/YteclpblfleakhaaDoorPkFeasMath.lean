import Derived.Test.YteclpblfleakhaaDoorPkLoadMath

namespace Go.Proofs.YteclpblfleakhaaDoor.Feas
open Go.Proofs.YteclpblfleakhaaDoor.Order Go.Proofs.YteclpblfleakhaaDoor.Place Go.Proofs.YteclpblfleakhaaDoor.Route Go.Proofs.YteclpblfleakhaaDoor.When Go.Proofs.YteclpblfleakhaaDoor.Load
set_option linter.unusedVariables false
def nR (r : Int) (l : List (Int × Int)) : Int := (ofR r l).length
def stB (t : List Rq) (pre : List (Int × Int)) (s : Int × Int) : Bool := inT t s.1 && (decide (s.2 = 0) || decide (s.2 = 1)) && decide (nR s.1 pre = s.2)
theorem stB_iff {t : List Rq} {pre : List (Int × Int)} {s : Int × Int} : stB t pre s = true ↔ (0 ≤ s.1 ∧ s.1 < t.length) ∧ (s.2 = 0 ∨ s.2 = 1) ∧ nR s.1 pre = s.2 := by
 simp only [stB, inT, Bool.and_eq_true, Bool.or_eq_true, decide_eq_true_eq, and_assoc]
abbrev Pace := Nat → Vi → Int → Int × Bool
def earlyP : Pace := fun _ x n => (max n x.we + x.sv, decide (n ≤ x.wl))
def noTm : Tm := ⟨0, 0, 0⟩
def tmAt (ts : List Tm) (k : Nat) : Tm := (ts[k]?).getD noTm
def keptB (x : Vi) (n : Int) (y : Tm) : Bool := decide (n ≤ y.ar) && decide (y.ar ≤ y.be) && (decide (x.we ≤ y.be) && decide (y.be ≤ x.wl)) && decide (y.lv = y.be + x.sv)
def keptP (ts : List Tm) : Pace := fun k x n => ((tmAt ts k).lv, keptB x n (tmAt ts k))
def goP (P : Pace) (k : Nat) (a : Sp) (x : Vi) : Sp := ⟨(P k x (arV a x)).1, x.px, x.py⟩
def srvV (v : Vh) (t : List Rq) (P : Pace) (pre : List (Int × Int)) (a : Sp) (s : Int × Int) : Int :=
 if 16 ≤ pre.length then 11 else if stB t pre s = false then 8 else if v.cp < acc t (pre ++ [s]) then 10 else if (P pre.length (visV t s) (arV a (visV t s))).2 = false then 9 else 0
def walkV (v : Vh) (t : List Rq) (P : Pace) : List (Int × Int) → Sp → List (Int × Int) → Int × Nat × Sp
 | pre, a, [] => (0, pre.length, a)
 | pre, a, s :: rest => if srvV v t P pre a s = 0 then walkV v t P (pre ++ [s]) (goP P pre.length a (visV t s)) rest else (srvV v t P pre a s, pre.length, a)
def homeE (v : Vh) (t : List Rq) (l : List (Int × Int)) (a : Sp) : Int := if 0 < acc t l then 8 else if v.en < arV a (homeV v) then 9 else 0
def fstBad : Nat → List Rq → Int
 | _, [] => -1
 | k, q :: t => if q.chk = 0 then fstBad (k + 1) t else k
def badK (t : List Rq) : Int := fstBad 0 t
def lookV (v : Vh) (l : List (Int × Int)) (t : List Rq) (P : Pace) : Int × Int × Int :=
 if v.chk ≠ 0 then (2, 0, 0) else if 0 ≤ badK t then (2, 1, badK t) else
  let y := walkV v t P [] (sp0 v) l
  if y.1 ≠ 0 then (y.1, 2, (y.2.1 : Int)) else (homeE v t l y.2.2, 3, (l.length : Int))
def faultV (v : Vh) (l : List (Int × Int)) (t : List Rq) : Int × Int × Int := if (lookV v l t earlyP).1 = 0 then (0, 0, 0) else lookV v l t earlyP
def rightB (v : Vh) (l : List (Int × Int)) (t : List Rq) (ts : List Tm) : Bool := decide (ts.length = l.length) && decide ((lookV v l t (keptP ts)).1 = 0)
theorem fstBad_all : ∀ {t : List Rq} {k : Nat}, (∀ q ∈ t, q.chk = 0) → fstBad k t = -1
 | [], k, _ => rfl
 | q :: t, k, h => by
  rw [fstBad, if_pos (h q (List.mem_cons_self ..)), fstBad_all fun x hx => h x (List.mem_cons_of_mem _ hx)]
theorem fstBad_at {q : Rq} (hq : q.chk ≠ 0) : ∀ {pre rest : List Rq} {k : Nat}, (∀ x ∈ pre, x.chk = 0) → fstBad k (pre ++ q :: rest) = (k + pre.length : Nat)
 | [], rest, k, _ => by rw [List.nil_append, fstBad, if_neg hq]; simp
 | x :: pre, rest, k, h => by
  rw [List.cons_append, fstBad, if_pos (h x (List.mem_cons_self ..)), fstBad_at hq fun y hy => h y (List.mem_cons_of_mem _ hy)]
  simp
  omega
theorem badK_all {t : List Rq} (h : ∀ q ∈ t, q.chk = 0) : badK t = -1 := fstBad_all h
theorem badK_ok {t : List Rq} : badK t < 0 ↔ ∀ q ∈ t, q.chk = 0 := by
 constructor
 · intro h q hq
   rcases Decidable.em (∀ x ∈ t, x.chk = 0) with h1 | h1
   · exact h1 q hq
   · exfalso
     have : ∃ pre x rest, t = pre ++ x :: rest ∧ x.chk ≠ 0 ∧ ∀ y ∈ pre, y.chk = 0 := by
      clear h hq
      induction t with
      | nil => exact absurd (fun x hx => by cases hx) h1
      | cons x t ih =>
       by_cases hx : x.chk = 0
       · obtain ⟨pre, y, rest, e, h2, h3⟩ := ih (fun h2 => h1 fun z hz => by
          rcases List.mem_cons.1 hz with rfl | hz
          · exact hx
          · exact h2 z hz)
         exact ⟨x :: pre, y, rest, by rw [e]; rfl, h2, fun z hz => by
          rcases List.mem_cons.1 hz with rfl | hz
          · exact hx
          · exact h3 z hz⟩
       · exact ⟨[], x, t, rfl, hx, fun y hy => by cases hy⟩
     obtain ⟨pre, x, rest, rfl, h2, h3⟩ := this
     have h4 := fstBad_at h2 (rest := rest) (k := 0) h3
     unfold badK at h
     rw [h4] at h
     omega
 · intro h
   rw [badK_all h]
   omega
theorem walkV_stop {v : Vh} {t : List Rq} {P : Pace} {pre : List (Int × Int)} {a : Sp} {s : Int × Int} {rest : List (Int × Int)} (h : srvV v t P pre a s ≠ 0) : walkV v t P pre a (s :: rest) = (srvV v t P pre a s, pre.length, a) := by rw [walkV, if_neg h]
theorem walkV_go {v : Vh} {t : List Rq} {P : Pace} {pre : List (Int × Int)} {a : Sp} {s : Int × Int} {rest : List (Int × Int)} (h : srvV v t P pre a s = 0) : walkV v t P pre a (s :: rest) = walkV v t P (pre ++ [s]) (goP P pre.length a (visV t s)) rest := by rw [walkV, if_pos h]
theorem srv_bits {v : Vh} {t : List Rq} {P : Pace} {pre : List (Int × Int)} {a : Sp} {s : Int × Int} : srvV v t P pre a s = 0 ↔ pre.length < 16 ∧ stB t pre s = true ∧ acc t (pre ++ [s]) ≤ v.cp ∧ (P pre.length (visV t s) (arV a (visV t s))).2 = true := by
 unfold srvV
 constructor
 · intro h
   split at h
   · omega
   rename_i h1
   split at h
   · omega
   rename_i h2
   split at h
   · omega
   rename_i h3
   split at h
   · omega
   rename_i h4
   exact ⟨by omega, by simpa using h2, by omega, by simpa using h4⟩
 · rintro ⟨h1, h2, h3, h4⟩
   rw [if_neg (by omega), if_neg (by simp [h2]), if_neg (by omega), if_neg (by simp [h4])]
def boardB (c : Int) (t : List Rq) : List (Int × Int) → List (Int × Int) → Bool
 | _, [] => true
 | pre, s :: l => decide (acc t (pre ++ [s]) ≤ c) && boardB c t (pre ++ [s]) l
def runP (P : Pace) : Nat → Sp → List Vi → Option Sp
 | _, a, [] => some a
 | k, a, x :: xs => if (P k x (arV a x)).2 then runP P (k + 1) (goP P k a x) xs else none
def InR (t : List Rq) (l : List (Int × Int)) : Prop := ∀ s ∈ l, s.1 < t.length
theorem route_stB {l : List (Int × Int)} {t : List Rq} (h : isR l = true) (ht : InR t l) {p : List (Int × Int)} {s : Int × Int} {q : List (Int × Int)} (e : l = p ++ s :: q) : stB t p s = true := by
 have hs : s ∈ l := by rw [e]; simp
 obtain ⟨h0, h1⟩ := isR_iff.1 h s hs
 rw [stB_iff]
 refine ⟨⟨h0, ht s hs⟩, ?_⟩
 rcases split3 e rfl h1 with ⟨h2, h3, _⟩ | ⟨h2, h3, _⟩
 · have h4 : s.2 = 0 := by rw [h2]
   exact ⟨.inl h4, by unfold nR; rw [h3, h4]; rfl⟩
 · have h4 : s.2 = 1 := by rw [h2]
   exact ⟨.inr h4, by unfold nR; rw [h3, h4]; rfl⟩
theorem walk_iff {v : Vh} {t : List Rq} {P : Pace} : ∀ {l pre : List (Int × Int)} {a : Sp}, (∀ p s q, l = p ++ s :: q → stB t (pre ++ p) s = true) → (pre ++ l).length ≤ 16 →
 ((walkV v t P pre a l).1 = 0 ↔ boardB v.cp t pre l = true ∧ ∃ b, runP P pre.length a (visL t l) = some b) ∧ ∀ b, boardB v.cp t pre l = true → runP P pre.length a (visL t l) = some b → walkV v t P pre a l = (0, (pre ++ l).length, b)
 | [], pre, a, _, _ => by
  refine ⟨by simp [walkV, boardB, visL, runP], fun b _ hr => ?_⟩
  simp [visL, runP] at hr
  simp [walkV, hr]
 | s :: l, pre, a, hs, hl => by
  have h1 := hs [] s l rfl
  rw [List.append_nil] at h1
  have hl' : ((pre ++ [s]) ++ l).length ≤ 16 := by simpa using hl
  have hk : pre.length < 16 := by simp at hl; omega
  have ih := walk_iff (v := v) (t := t) (P := P) (l := l) (pre := pre ++ [s]) (a := goP P pre.length a (visV t s)) (fun p x q e => by
   have := hs (s :: p) x q (by rw [e]; rfl)
   simpa using this) hl'
  have ev : visL t (s :: l) = visV t s :: visL t l := rfl
  have en : (pre ++ [s]).length = pre.length + 1 := by simp
  rw [en] at ih
  by_cases hb : acc t (pre ++ [s]) ≤ v.cp
  · cases hp : (P pre.length (visV t s) (arV a (visV t s))).2
    · have h2 : srvV v t P pre a s ≠ 0 := fun e => by have := (srv_bits.1 e).2.2.2; rw [hp] at this; cases this
      rw [walkV_stop h2, ev, runP, hp]
      exact ⟨⟨fun e => absurd e h2, fun e => by obtain ⟨_, b, e⟩ := e; cases e⟩, fun b _ e => by cases e⟩
    · have h2 : srvV v t P pre a s = 0 := srv_bits.2 ⟨hk, h1, hb, hp⟩
      rw [walkV_go h2, ev, runP, hp, if_pos rfl, boardB, decide_eq_true hb, Bool.true_and]
      refine ⟨ih.1, fun b x y => ?_⟩
      rw [ih.2 b x y]
      simp
  · have h2 : srvV v t P pre a s ≠ 0 := fun e => hb (srv_bits.1 e).2.2.1
    rw [walkV_stop h2, boardB, decide_eq_false hb]
    exact ⟨⟨fun e => absurd e h2, fun e => by obtain ⟨e, _⟩ := e; cases e⟩, fun b e => by cases e⟩
theorem look_iff {v : Vh} {l : List (Int × Int)} {t : List Rq} {P : Pace} (hv : v.chk = 0) (ht : ∀ q ∈ t, q.chk = 0) (hl : isR l = true) (h16 : l.length ≤ 16) (hr : InR t l) :
 (lookV v l t P).1 = 0 ↔ boardB v.cp t [] l = true ∧ ∃ b, runP P 0 (sp0 v) (visL t l) = some b ∧ arV b (homeV v) ≤ v.en := by
 obtain ⟨h1, h2⟩ := walk_iff (v := v) (t := t) (P := P) (l := l) (pre := []) (a := sp0 v) (fun p s q e => route_stB hl hr e) (by simpa using h16)
 have hb : badK t < 0 := badK_ok.2 ht
 have ha : acc t l = 0 := acc_last t hl
 unfold lookV
 rw [if_neg (by omega), if_neg (by omega)]
 simp only [List.length_nil] at h1 h2
 constructor
 · intro h
   dsimp only at h
   by_cases h3 : (walkV v t P [] (sp0 v) l).1 = 0
   case neg => rw [if_pos h3] at h; exact absurd h h3
   · rw [if_neg (by omega)] at h
     obtain ⟨hb1, b, hr1⟩ := h1.1 h3
     rw [h2 b hb1 hr1] at h
     dsimp only [homeE] at h
     rw [ha] at h
     refine ⟨hb1, b, hr1, ?_⟩
     rw [if_neg (by omega)] at h
     split at h <;> omega
 · rintro ⟨hb1, b, hr1, he⟩
   rw [h2 b hb1 hr1]
   dsimp only [homeE]
   rw [if_neg (by omega), ha, if_neg (by omega), if_neg (by omega)]
theorem fault_zero {v : Vh} {l : List (Int × Int)} {t : List Rq} : (faultV v l t).1 = 0 ↔ (lookV v l t earlyP).1 = 0 := by
 unfold faultV
 split
 · rename_i h; exact ⟨fun _ => h, fun _ => rfl⟩
 · rfl
theorem right_iff {v : Vh} {l : List (Int × Int)} {t : List Rq} {ts : List Tm} : rightB v l t ts = true ↔ ts.length = l.length ∧ (lookV v l t (keptP ts)).1 = 0 := by
 unfold rightB
 rw [Bool.and_eq_true, decide_eq_true_eq, decide_eq_true_eq]
def keptL : Sp → List Vi → List Tm → Option Sp
 | a, [], _ => some a
 | a, x :: xs, y :: ys => if keptB x (arV a x) y then keptL ⟨y.lv, x.px, x.py⟩ xs ys else none
 | _, _ :: _, [] => none
def earlyL : Sp → List Vi → Option Sp
 | a, [] => some a
 | a, x :: xs => if arV a x ≤ x.wl then earlyL ⟨max (arV a x) x.we + x.sv, x.px, x.py⟩ xs else none
theorem run_kept (ts : List Tm) : ∀ (xs : List Vi) (k : Nat) (a : Sp), ts.length = k + xs.length → runP (keptP ts) k a xs = keptL a xs (ts.drop k)
 | [], k, a, _ => by simp [runP, keptL]
 | x :: xs, k, a, h => by
  have hk : k < ts.length := by simp at h; omega
  have e : ts.drop k = ts[k] :: ts.drop (k + 1) := List.drop_eq_getElem_cons hk
  have et : tmAt ts k = ts[k] := by unfold tmAt; rw [List.getElem?_eq_getElem hk]; rfl
  rw [runP, e, keptL]
  simp only [keptP, goP, et]
  rw [← run_kept ts xs (k + 1) _ (by simp at h; omega)]
theorem run_early : ∀ (xs : List Vi) (k : Nat) (a : Sp), runP earlyP k a xs = earlyL a xs
 | [], _, _ => rfl
 | x :: xs, k, a => by
  rw [runP, earlyL]
  simp only [earlyP, goP, decide_eq_true_eq]
  rw [run_early xs (k + 1)]
def earlyT : Sp → List Vi → List Tm
 | _, [] => []
 | a, x :: xs => ⟨arV a x, max (arV a x) x.we, max (arV a x) x.we + x.sv⟩ :: earlyT ⟨max (arV a x) x.we + x.sv, x.px, x.py⟩ xs
def LeT (y z : Tm) : Prop := y.ar ≤ z.ar ∧ y.be ≤ z.be ∧ y.lv ≤ z.lv
inductive LeL : List Tm → List Tm → Prop
 | nil : LeL [] []
 | cons {y z ys zs} : LeT y z → LeL ys zs → LeL (y :: ys) (z :: zs)
theorem LeL.get : ∀ {a b : List Tm}, LeL a b → a.length = b.length ∧ ∀ (i : Nat) (y z : Tm), a[i]? = some y → b[i]? = some z → LeT y z
 | _, _, .nil => ⟨rfl, fun i y z h => by cases h⟩
 | _, _, .cons h r => by
  obtain ⟨h1, h2⟩ := r.get
  refine ⟨by simp [h1], fun i y z hy hz => ?_⟩
  cases i with
  | zero =>
   simp at hy hz
   subst hy hz
   exact h
  | succ i => exact h2 i y z (by simpa using hy) (by simpa using hz)
theorem keptB_iff {x : Vi} {n : Int} {y : Tm} : keptB x n y = true ↔ n ≤ y.ar ∧ y.ar ≤ y.be ∧ (x.we ≤ y.be ∧ y.be ≤ x.wl) ∧ y.lv = y.be + x.sv := by
 simp only [keptB, Bool.and_eq_true, decide_eq_true_eq, and_assoc]
end Go.Proofs.YteclpblfleakhaaDoor.Feas
namespace Go.Proofs.YteclpblfleakhaaDoor.Feas
open Go.RowKit Go.Proofs.YteclpblfleakhaaDoor.Mem Go.Proofs.YteclpblfleakhaaDoor.Route
set_option linter.unusedVariables false
def FateAt (w : World) (b n : Nat) (f : Int → Option Int) : Prop :=
 ∃ D : DataW Unit, w.ownsMap Tryd.prog 3 (plainElem Tryd.prog 183) b n D ∧
  ∀ r, Maps.has D (.int .i64 r) = (f r).isSome ∧ D.atKey (.int .i64 r) (.lit (.int .i64 0)) = .lit (.int .i64 ((f r).getD 0))
variable {w v : World} {b n : Nat} {f : Int → Option Int}
theorem FateAt.inside (h : FateAt w b n f) : b < w.heap.size := h.elim fun _ h => h.1.lt
theorem FateAt.same (h : FateAt w b n f) (e : v.heap[b]? = w.heap[b]?) : FateAt v b n f := by
 obtain ⟨D, ⟨es, clock, h1, h2⟩, h3⟩ := h
 exact ⟨D, ⟨es, clock, e.trans h1, h2⟩, h3⟩
theorem FateAt.keep (h : FateAt w b n f) {B : Nat} (hb : Below B w v) (hB : b < B) : FateAt v b n f := h.same (hb.block b hB)
theorem FateAt.alloc (h : FateAt w b n f) (o : Obj) : FateAt (w.alloc o) b n f := h.same (Below.heap_alloc w o b h.inside)
theorem FateAt.far (h : FateAt w b n f) {a : Addr} (ha : b ≠ a.block) (u : Value) : FateAt (w.setCell a u) b n f := h.same (Below.heap_setCell w a u b ha)
theorem FateAt.funs (h : FateAt w b n f) {g : Int → Option Int} (e : ∀ r, g r = f r) : FateAt w b n g := by
 have : g = f := funext e
 rw [this]; exact h
theorem FateAt.made (w : World) : FateAt (w.alloc (.map #[] 0)) w.heap.size 0 (fun _ => none) :=
 ⟨_, World.ownsMap_made w _ _ _, fun r => ⟨rfl, rfl⟩⟩
theorem FateAt.no_cells (h : FateAt w b n f) {g : Nat} {t : TypeId} {cs : Array Value} (hg : At w g t cs) : b ≠ g := by
 rintro rfl
 obtain ⟨D, ⟨es, clock, h1, h2⟩, h3⟩ := h
 have h4 : w.heap[b]? = some (.cells cs t (0, 0)) := hg
 rw [h4] at h1
 cases h1
def fateF (l : List (Int × Int)) (r : Int) : Option Int := if (ofR r l).length = 0 then none else some ((ofR r l).length : Nat)
theorem fateF_get (l : List (Int × Int)) (r : Int) : (fateF l r).getD 0 = ((ofR r l).length : Nat) := by
 unfold fateF
 split
 · rename_i h; rw [h]; rfl
 · rfl
theorem fateF_nil (r : Int) : fateF [] r = none := by simp [fateF, ofR]
theorem fateF_next (l : List (Int × Int)) (s : Int × Int) (q : Int) : fateF (l ++ [s]) q = (fun q => if q = s.1 then some (((ofR s.1 l).length : Int) + 1) else fateF l q) q := by
 unfold fateF
 simp only
 rw [ofR_append]
 by_cases hq : q = s.1
 · subst hq
   rw [ofR_cons_same rfl, List.length_append, if_neg (by simp), if_pos rfl]
   simp [ofR]
 · rw [ofR_cons_other (fun e => hq e.symm), if_neg hq, show ofR q [] = [] from rfl, List.append_nil]
end Go.Proofs.YteclpblfleakhaaDoor.Feas
namespace Go.Proofs.YteclpblfleakhaaDoor.Feas
open Go.RowKit Go.Proofs.YteclpblfleakhaaDoor.Mem Go.Proofs.YteclpblfleakhaaDoor.Route Go.Proofs.YteclpblfleakhaaDoor.When Go.Proofs.YteclpblfleakhaaDoor.Load Go.Proofs.YteclpblfleakhaaDoor.Float Go.Proofs.YteclpblfleakhaaDoor.Tail
set_option linter.unusedVariables false
structure Two (g m : Nat) (w w' : World) : Prop where
 os : w'.os = w.os
 tape : w'.tape = w.tape
 output : w'.output = w.output
 size : w.heap.size ≤ w'.heap.size
 block : ∀ k, k < w.heap.size → k ≠ g → k ≠ m → w'.heap[k]? = w.heap[k]?
theorem Two.of_below {g m : Nat} {w w' : World} (h : Below w.heap.size w w') : Two g m w w' := ⟨h.os, h.tape, h.output, h.size, fun k hk _ _ => h.block k hk⟩
theorem Two.refl (g m : Nat) (w : World) : Two g m w w := .of_below (Below.refl _ _)
theorem Two.trans {g m : Nat} {x y z : World} (h : Two g m x y) (k : Two g m y z) : Two g m x z :=
 ⟨k.os.trans h.os, k.tape.trans h.tape, k.output.trans h.output, Nat.le_trans h.size k.size, fun i hi hn hm => (k.block i (Nat.lt_of_lt_of_le hi h.size) hn hm).trans (h.block i hi hn hm)⟩
theorem Two.grown {g m : Nat} {w w' : World} {row : Option Nat} (h : w.grownBy w' row) (hr : ∀ k, row = some k → k = g ∨ k = m) : Two g m w w' :=
 ⟨h.os, h.tape, h.output, h.size, fun k hk hn hm => h.block k hk (fun e => by rcases hr k e.symm with h | h <;> omega)⟩
theorem Two.setG (g m : Nat) (w : World) (i : Nat) (x : Value) : Two g m w (w.setCell ⟨g, i, none⟩ x) := ⟨rfl, rfl, rfl, by simp, fun k _ hn _ => Below.heap_setCell _ _ _ _ hn⟩
theorem Two.below {g m B : Nat} {w w' : World} (h : Two g m w w') (hg : B ≤ g) (hm : B ≤ m) (hB : B ≤ w.heap.size) : Below B w w' :=
 ⟨h.os, h.tape, h.output, h.size, fun k hk => h.block k (by omega) (by omega) (by omega)⟩
theorem At.two {g m k : Nat} {w w' : World} {t : TypeId} {cs : Array Value} (h : At w k t cs) (hT : Two g m w w') (hg : k ≠ g) (hm : k ≠ m) : At w' k t cs := (hT.block k h.inside hg hm).trans h
theorem Two.on {g m : Nat} {x y z : World} (h : Two g m x y) (hb : Below y.heap.size y z) : Two g m x z := h.trans (.of_below hb)
theorem res_vis {fn : Func} {p : Tmp} (h : fn.results = #[.cell p 140]) {tmps : Array Value} {w : World} {g : Nat} {x0 x1 x2 x3 x4 : Value} (hp : tmps.getD p undef = .pointer (some ⟨g, 0, none⟩))
 (c0 : w.cell? ⟨g, 0, none⟩ = some x0) (c1 : w.cell? ⟨g, 1, none⟩ = some x1) (c2 : w.cell? ⟨g, 2, none⟩ = some x2) (c3 : w.cell? ⟨g, 3, none⟩ = some x3) (c4 : w.cell? ⟨g, 4, none⟩ = some x4) : (results fn tmps).run Tryd.prog w = .ok (.agg #[x0, x1, x2, x3, x4]) w := by
 have hp' : tmps[p]?.getD undef = .pointer (some ⟨g, 0, none⟩) := by simpa using hp
 simp only [results, h]
 go_simp
set_option maxHeartbeats 2000000 in
theorem visit_any (hx hy cp st en ld px py now s1 s2 : Int) (kv mv vt : Value) (g B : Nat) (t : List Rq) (x : Vi) (w : World) (hv : visO t (s1, s2) = some x)
 (hg : At w g 135 #[.int .i64 hx, .int .i64 hy, .int .i64 cp, .int .i64 st, .int .i64 en, vt, kv, mv, .int .i64 ld, .int .i64 px, .int .i64 py, .int .i64 now]) (hB : B ≤ w.heap.size) (hT : Rqs B w vt t) :
 Calls Tryd.prog 86 #[.pointer (some ⟨g, 0, none⟩), .agg #[.int .i64 s1, .int .i64 s2]] w fun e w' =>
  e = .returned (.agg #[.int .i64 x.px, .int .i64 x.py, .int .i64 x.we, .int .i64 x.wl, .int .i64 x.sv]) ∧ Below w.heap.size w w' := by
 obtain ⟨xt, N, cap, rfl, hN, hc1, hc2, hx0⟩ := hT.opened
 obtain ⟨q, hq, h0, h1, -, hk⟩ := visO_some hv
 simp only at hq h0 h1 hk
 obtain ⟨k, rfl⟩ : ∃ k : Nat, s1 = k := ⟨s1.toNat, by omega⟩
 simp only [Int.toNat_natCast] at hq
 have hk1 : k < N := by omega
 have hk2 : ((k : Int) < N) := by omega
 obtain ⟨n, hn⟩ : ∃ n, w.heap.size = n := ⟨_, rfl⟩
 obtain ⟨w1, hw1⟩ : ∃ w1, (w.alloc (.cells #[.int .i64 (k : Int), .int .i64 s2] 61)).alloc (.cells #[.int .i64 0, .int .i64 0, .int .i64 0, .int .i64 0, .int .i64 0] 140) = w1 := ⟨_, rfl⟩
 have hS : At w1 n 61 #[.int .i64 (k : Int), .int .i64 s2] := by rw [← hw1]; exact (At.new_ _ _ _ hn.symm).alloc _
 have hV : At w1 (n + 1) 140 #[.int .i64 0, .int .i64 0, .int .i64 0, .int .i64 0, .int .i64 0] := by rw [← hw1]; exact At.new_ _ _ _ (by simp [hn])
 have hG : At w1 g 135 #[.int .i64 hx, .int .i64 hy, .int .i64 cp, .int .i64 st, .int .i64 en, .slice xt N cap, kv, mv, .int .i64 ld, .int .i64 px, .int .i64 py, .int .i64 now] := by rw [← hw1]; exact (hg.alloc _).alloc _
 have hb1 : Below n w w1 := by rw [← hw1]; exact ((Below.refl _ _).alloc (by omega) _).alloc (by simp; omega) _
 obtain ⟨b, o, rfl, hb, c0, c1, c2, c3, c4, c5, c6, c7, c8, c9⟩ := (hT.keep hb1 (by omega)).at hq
 have hw1' := Lib.hid hw1
 have hn' := Lib.hid hn
 have hgn : g < n := by have := hg.inside; omega
 have hBn : B ≤ n := by omega
 have hbn : b < w1.heap.size := by have := hV.inside; omega
 have hk' := Lib.hid hk
 clear hN hx0 hv hg hw1 hT hn hk hq
 go_enter Tryd.func86, Tryd.ntmps86
 go_wp2_with fail
 simp only [hn'.out]
 rw [hw1'.out]
 refine wp_region_float1 8 5 (.cells #[.int .i64 0, .int .i64 0, .int .i64 0, .int .i64 0, .int .i64 0, .int .i64 0, .int .i64 0, .int .i64 0, .int .i64 0, .int .i64 0] 68) ?af (by kernel_rfl) (by kernel_rfl) (by kernel_rfl) ?hL ?hW ?hT
 case hL =>
  intro o ho a wz
  have ho' := (Option.some.inj ho).symm
  subst ho'
  simp only [ptr]
  go_simp
 case hW =>
  intro w0 hw0
  have hG0 := hG.keep hw0 hG.inside
  have hS0 := hS.keep hw0 hS.inside
  have c0 := (hw0.cell (p := ⟨b, o + k * 10, none⟩) hbn).trans c0
  have c1 := (hw0.cell (p := ⟨b, o + k * 10 + 1, none⟩) hbn).trans c1
  have c2 := (hw0.cell (p := ⟨b, o + k * 10 + 2, none⟩) hbn).trans c2
  have c3 := (hw0.cell (p := ⟨b, o + k * 10 + 3, none⟩) hbn).trans c3
  have c4 := (hw0.cell (p := ⟨b, o + k * 10 + 4, none⟩) hbn).trans c4
  have c5 := (hw0.cell (p := ⟨b, o + k * 10 + 5, none⟩) hbn).trans c5
  have c6 := (hw0.cell (p := ⟨b, o + k * 10 + 6, none⟩) hbn).trans c6
  have c7 := (hw0.cell (p := ⟨b, o + k * 10 + 7, none⟩) hbn).trans c7
  have c8 := (hw0.cell (p := ⟨b, o + k * 10 + 8, none⟩) hbn).trans c8
  have c9 := (hw0.cell (p := ⟨b, o + k * 10 + 9, none⟩) hbn).trans c9
  have g5 := hG0.cell 5
  have s0 := hS0.cell 0
  simp at g5 s0
  have kg5 := cell_regrown g5
  have ks0 := cell_regrown s0
  have kc0 := cell_regrown c0
  have kc1 := cell_regrown c1
  have kc2 := cell_regrown c2
  have kc3 := cell_regrown c3
  have kc4 := cell_regrown c4
  have kc5 := cell_regrown c5
  have kc6 := cell_regrown c6
  have kc7 := cell_regrown c7
  have kc8 := cell_regrown c8
  have kc9 := cell_regrown c9
  simp only [List.take_succ_cons, List.take_zero]
  repeat (go_big_quiet_step (fail))
  refine wpQuiet_nil ?_
  rfl
 case hT =>
  intro gn w2 hg2 hob hb2
  have hR : At w2 gn 68 #[.int .i64 0, .int .i64 0, .int .i64 0, .int .i64 0, .int .i64 0, .int .i64 0, .int .i64 0, .int .i64 0, .int .i64 0, .int .i64 0] := hob
  have hvi := hV.inside
  have hV2 := hV.keep hb2 hV.inside
  have hS2 := hS.keep hb2 hS.inside
  have hB2 := hb1.trans (hb2.mono (by omega))
  have hgn2 : n + 1 < gn := by omega
  clear hob hb2 hb1 hV hS hG
  simp only [List.drop_succ_cons, List.drop_zero]
  have r0 := hR.cell 0
  have r1 := hR.cell 1
  have r2 := hR.cell 2
  have r3 := hR.cell 3
  have r4 := hR.cell 4
  have r5 := hR.cell 5
  have r6 := hR.cell 6
  have r7 := hR.cell 7
  have r8 := hR.cell 8
  have r9 := hR.cell 9
  have rf := hR.free
  simp at r0 r1 r2 r3 r4 r5 r6 r7 r8 r9
  go_upto_region 2 with fail
  have hR3 := put10 (y0 := .int .i64 q.fx) (y1 := .int .i64 q.fy) (y2 := .int .i64 q.tx) (y3 := .int .i64 q.ty) (y4 := .int .i64 q.pe) (y5 := .int .i64 q.pl) (y6 := .int .i64 q.de) (y7 := .int .i64 q.dl) (y8 := .int .i64 q.ld) (y9 := .int .i64 q.sv) hR
  obtain ⟨w3, hw3⟩ : ∃ w3, ((((((((((w2.setCell ⟨gn, 0, none⟩ (.int .i64 q.fx)).setCell ⟨gn, 1, none⟩ (.int .i64 q.fy)).setCell ⟨gn, 2, none⟩ (.int .i64 q.tx)).setCell ⟨gn, 3, none⟩ (.int .i64 q.ty)).setCell ⟨gn, 4, none⟩ (.int .i64 q.pe)).setCell ⟨gn, 5, none⟩ (.int .i64 q.pl)).setCell ⟨gn, 6, none⟩ (.int .i64 q.de)).setCell ⟨gn, 7, none⟩ (.int .i64 q.dl)).setCell ⟨gn, 8, none⟩ (.int .i64 q.ld)).setCell ⟨gn, 9, none⟩ (.int .i64 q.sv)) = w3 := ⟨_, rfl⟩
  have hfar : ∀ (k : Nat) (t : TypeId) (cs : Array Value), At w2 k t cs → k ≠ gn → At w3 k t cs := fun k t cs h hk => by
   rw [← hw3]
   exact (((((((((h.far hk _ _).far hk _ _).far hk _ _).far hk _ _).far hk _ _).far hk _ _).far hk _ _).far hk _ _).far hk _ _).far hk _ _
  have hV3 := hfar _ _ _ hV2 (by omega)
  have hS3 := hfar _ _ _ hS2 (by omega)
  have hB3 : Below n w w3 := by
   rw [← hw3]
   exact (((((((((hB2.setCell (by simp; omega) _).setCell (by simp; omega) _).setCell (by simp; omega) _).setCell (by simp; omega) _).setCell (by simp; omega) _).setCell (by simp; omega) _).setCell (by simp; omega) _).setCell (by simp; omega) _).setCell (by simp; omega) _).setCell (by simp; omega) _
  rw [hw3] at hR3 ⊢
  clear hfar hw3 hR hV2 hS2 hB2 r0 r1 r2 r3 r4 r5 r6 r7 r8 r9 rf
  have r0 := hR3.cell 0
  have r1 := hR3.cell 1
  have r2 := hR3.cell 2
  have r3 := hR3.cell 3
  have r4 := hR3.cell 4
  have r5 := hR3.cell 5
  have r6 := hR3.cell 6
  have r7 := hR3.cell 7
  have r9 := hR3.cell 9
  have s1 := hS3.cell 1
  have v0 := hV3.cell 0
  have v1 := hV3.cell 1
  have v2 := hV3.cell 2
  have v3 := hV3.cell 3
  have v4 := hV3.cell 4
  have vf := hV3.free
  simp at r0 r1 r2 r3 r4 r5 r6 r7 r9 s1 v0 v1 v2 v3 v4
  rcases hk'.out with ⟨rfl, rfl⟩ | ⟨rfl, rfl⟩
  · clear hk'
    go_wp2
    refine bodyPost_ret (res_vis rfl rfl (x0 := .int .i64 q.fx) (x1 := .int .i64 q.fy) (x2 := .int .i64 q.pe) (x3 := .int .i64 q.pl) (x4 := .int .i64 q.sv) (by go_simp) (by go_simp) (by go_simp) (by go_simp) (by go_simp)) rfl ?_
    exact ⟨rfl, by rw [hn'.out]; exact ((((hB3.setCell (by simp) _).setCell (by simp) _).setCell (by simp) _).setCell (by simp) _).setCell (by simp) _⟩
  · clear hk'
    go_wp2
    refine bodyPost_ret (res_vis rfl rfl (x0 := .int .i64 q.tx) (x1 := .int .i64 q.ty) (x2 := .int .i64 q.de) (x3 := .int .i64 q.dl) (x4 := .int .i64 q.sv) (by go_simp) (by go_simp) (by go_simp) (by go_simp) (by go_simp)) rfl ?_
    exact ⟨rfl, by rw [hn'.out]; exact ((((hB3.setCell (by simp) _).setCell (by simp) _).setCell (by simp) _).setCell (by simp) _).setCell (by simp) _⟩
theorem ret_nb {a b : Int} {c d : Bool} (h : a = b) (h2 : c = d) : Ending.returned (.tuple #[.int .i64 a, .bool c]) = .returned (.tuple #[.int .i64 b, .bool d]) := by rw [h, h2]
set_option maxHeartbeats 2000000 in
theorem earliest_any (k px py we wl sv n : Int) (h1 : -1000000000 ≤ n ∧ n ≤ 1000000000) (h2 : 0 ≤ we ∧ we ≤ 1000000000) (h3 : 0 ≤ sv ∧ sv ≤ 1000) (w : World) :
 Calls Tryd.prog 34 #[.int .i64 k, .agg #[.int .i64 px, .int .i64 py, .int .i64 we, .int .i64 wl, .int .i64 sv], .int .i64 n] w fun e w' =>
  e = .returned (.tuple #[.int .i64 (max n we + sv), .bool (decide (n ≤ wl))]) ∧ Below w.heap.size w w' := by
 have hb0 : Below w.heap.size w (w.alloc (.cells #[.int .i64 px, .int .i64 py, .int .i64 we, .int .i64 wl, .int .i64 sv] 140)) := (Below.refl _ _).alloc (Nat.le_refl _) _
 have hV := At.new w 140 #[.int .i64 px, .int .i64 py, .int .i64 we, .int .i64 wl, .int .i64 sv]
 obtain ⟨h11, h12⟩ := h1
 obtain ⟨h21, h22⟩ := h2
 obtain ⟨h31, h32⟩ := h3
 go_enter Tryd.func34, Tryd.ntmps34
 go_wp2_with fail
 generalize (w.alloc (.cells #[.int .i64 px, .int .i64 py, .int .i64 we, .int .i64 wl, .int .i64 sv] 140)) = w0 at *
 have c2 := hV.cell 2
 have c3 := hV.cell 3
 have c4 := hV.cell 4
 simp at c2 c3 c4
 go_quiet (fail)
 go_wp2
 refine bodyPost_ret (v := .tuple #[.int .i64 (max n we + sv), .bool (decide (n ≤ wl))]) (by simp [results, Tryd.results34, go_sem]) rfl ?_
 exact ⟨ret_nb rfl rfl, below_drewN hb0 nq⟩
end Go.Proofs.YteclpblfleakhaaDoor.Feas

import Derived.Test.YteclpblfleakhaaGreatDoorPkLoadMath

namespace Go.Proofs.YteclpblfleakhaaGreatDoor.Feas
open Go.Proofs.YteclpblfleakhaaGreatDoor.Order Go.Proofs.YteclpblfleakhaaGreatDoor.Place Go.Proofs.YteclpblfleakhaaGreatDoor.Route Go.Proofs.YteclpblfleakhaaGreatDoor.When Go.Proofs.YteclpblfleakhaaGreatDoor.Load
set_option linter.unusedVariables false
def boardB (c : Int) (t : List Rq) : List (Int × Int) → List (Int × Int) → Bool
 | _, [] => true
 | pre, s :: l => decide (acc t (pre ++ [s]) ≤ c) && boardB c t (pre ++ [s]) l
def runP (P : Pace) : Nat → Sp → List Vi → Option Sp
 | _, a, [] => some a
 | k, a, x :: xs => if (P k x (arV a x)).2 then runP P (k + 1) (goP P k a x) xs else none
def InR (t : List Rq) (l : List (Int × Int)) : Prop := ∀ s ∈ l, s.1 < t.length
theorem route_stB {l : List (Int × Int)} {t : List Rq} (h : isR l = true) (ht : InR t l) {p : List (Int × Int)} {s : Int × Int} {q : List (Int × Int)} (e : l = p ++ s :: q) : stB t p s = true := by
 have hs : s ∈ l := by rw [e]; simp
 obtain ⟨h0, h1⟩ := isR_iff.1 h s hs
 rw [stB_iff]
 refine ⟨⟨h0, ht s hs⟩, ?_⟩
 rcases split3 e rfl h1 with ⟨h2, h3, _⟩ | ⟨h2, h3, _⟩
 · have h4 : s.2 = 0 := by rw [h2]
   exact ⟨.inl h4, by unfold nR; rw [h3, h4]; rfl⟩
 · have h4 : s.2 = 1 := by rw [h2]
   exact ⟨.inr h4, by unfold nR; rw [h3, h4]; rfl⟩
theorem walk_iff {v : Vh} {t : List Rq} {P : Pace} : ∀ {l pre : List (Int × Int)} {a : Sp}, (∀ p s q, l = p ++ s :: q → stB t (pre ++ p) s = true) → (pre ++ l).length ≤ 16 →
 ((walkV v t P pre a l).1 = 0 ↔ boardB v.cp t pre l = true ∧ ∃ b, runP P pre.length a (visL t l) = some b) ∧ ∀ b, boardB v.cp t pre l = true → runP P pre.length a (visL t l) = some b → walkV v t P pre a l = (0, (pre ++ l).length, b)
 | [], pre, a, _, _ => by
  refine ⟨by simp [walkV, boardB, visL, runP], fun b _ hr => ?_⟩
  simp [visL, runP] at hr
  simp [walkV, hr]
 | s :: l, pre, a, hs, hl => by
  have h1 := hs [] s l rfl
  rw [List.append_nil] at h1
  have hl' : ((pre ++ [s]) ++ l).length ≤ 16 := by simpa using hl
  have hk : pre.length < 16 := by simp at hl; omega
  have ih := walk_iff (v := v) (t := t) (P := P) (l := l) (pre := pre ++ [s]) (a := goP P pre.length a (visV t s)) (fun p x q e => by
   have := hs (s :: p) x q (by rw [e]; rfl)
   simpa using this) hl'
  have ev : visL t (s :: l) = visV t s :: visL t l := rfl
  have en : (pre ++ [s]).length = pre.length + 1 := by simp
  rw [en] at ih
  by_cases hb : acc t (pre ++ [s]) ≤ v.cp
  · cases hp : (P pre.length (visV t s) (arV a (visV t s))).2
    · have h2 : srvV v t P pre a s ≠ 0 := fun e => by have := (srv_bits.1 e).2.2.2; rw [hp] at this; cases this
      rw [walkV_stop h2, ev, runP, hp]
      exact ⟨⟨fun e => absurd e h2, fun e => by obtain ⟨_, b, e⟩ := e; cases e⟩, fun b _ e => by cases e⟩
    · have h2 : srvV v t P pre a s = 0 := srv_bits.2 ⟨hk, h1, hb, hp⟩
      rw [walkV_go h2, ev, runP, hp, if_pos rfl, boardB, decide_eq_true hb, Bool.true_and]
      refine ⟨ih.1, fun b x y => ?_⟩
      rw [ih.2 b x y]
      simp
  · have h2 : srvV v t P pre a s ≠ 0 := fun e => hb (srv_bits.1 e).2.2.1
    rw [walkV_stop h2, boardB, decide_eq_false hb]
    exact ⟨⟨fun e => absurd e h2, fun e => by obtain ⟨e, _⟩ := e; cases e⟩, fun b e => by cases e⟩
theorem look_iff {v : Vh} {l : List (Int × Int)} {t : List Rq} {P : Pace} (hv : v.chk = 0) (ht : ∀ q ∈ t, q.chk = 0) (hl : isR l = true) (h16 : l.length ≤ 16) (hr : InR t l) :
 (lookV v l t P).1 = 0 ↔ boardB v.cp t [] l = true ∧ ∃ b, runP P 0 (sp0 v) (visL t l) = some b ∧ arV b (homeV v) ≤ v.en := by
 obtain ⟨h1, h2⟩ := walk_iff (v := v) (t := t) (P := P) (l := l) (pre := []) (a := sp0 v) (fun p s q e => route_stB hl hr e) (by simpa using h16)
 have hb : badK t < 0 := badK_ok.2 ht
 have ha : acc t l = 0 := acc_last t hl
 unfold lookV
 rw [if_neg (by omega), if_neg (by omega)]
 simp only [List.length_nil] at h1 h2
 constructor
 · intro h
   dsimp only at h
   by_cases h3 : (walkV v t P [] (sp0 v) l).1 = 0
   case neg => rw [if_pos h3] at h; exact absurd h h3
   · rw [if_neg (by omega)] at h
     obtain ⟨hb1, b, hr1⟩ := h1.1 h3
     rw [h2 b hb1 hr1] at h
     dsimp only [homeE] at h
     rw [ha] at h
     refine ⟨hb1, b, hr1, ?_⟩
     rw [if_neg (by omega)] at h
     split at h <;> omega
 · rintro ⟨hb1, b, hr1, he⟩
   rw [h2 b hb1 hr1]
   dsimp only [homeE]
   rw [if_neg (by omega), ha, if_neg (by omega), if_neg (by omega)]
theorem fault_zero {v : Vh} {l : List (Int × Int)} {t : List Rq} : (faultV v l t).1 = 0 ↔ (lookV v l t earlyP).1 = 0 := by
 unfold faultV
 split
 · rename_i h; exact ⟨fun _ => h, fun _ => rfl⟩
 · rfl
theorem right_iff {v : Vh} {l : List (Int × Int)} {t : List Rq} {ts : List Tm} : rightB v l t ts = true ↔ ts.length = l.length ∧ (lookV v l t (keptP ts)).1 = 0 := by
 unfold rightB
 rw [Bool.and_eq_true, decide_eq_true_eq, decide_eq_true_eq]
def keptL : Sp → List Vi → List Tm → Option Sp
 | a, [], _ => some a
 | a, x :: xs, y :: ys => if keptB x (arV a x) y then keptL ⟨y.lv, x.px, x.py⟩ xs ys else none
 | _, _ :: _, [] => none
def earlyL : Sp → List Vi → Option Sp
 | a, [] => some a
 | a, x :: xs => if arV a x ≤ x.wl then earlyL ⟨max (arV a x) x.we + x.sv, x.px, x.py⟩ xs else none
theorem run_kept (ts : List Tm) : ∀ (xs : List Vi) (k : Nat) (a : Sp), ts.length = k + xs.length → runP (keptP ts) k a xs = keptL a xs (ts.drop k)
 | [], k, a, _ => by simp [runP, keptL]
 | x :: xs, k, a, h => by
  have hk : k < ts.length := by simp at h; omega
  have e : ts.drop k = ts[k] :: ts.drop (k + 1) := List.drop_eq_getElem_cons hk
  have et : tmAt ts k = ts[k] := by unfold tmAt; rw [List.getElem?_eq_getElem hk]; rfl
  rw [runP, e, keptL]
  simp only [keptP, goP, et]
  rw [← run_kept ts xs (k + 1) _ (by simp at h; omega)]
theorem run_early : ∀ (xs : List Vi) (k : Nat) (a : Sp), runP earlyP k a xs = earlyL a xs
 | [], _, _ => rfl
 | x :: xs, k, a => by
  rw [runP, earlyL]
  simp only [earlyP, goP, decide_eq_true_eq]
  rw [run_early xs (k + 1)]
def earlyT : Sp → List Vi → List Tm
 | _, [] => []
 | a, x :: xs => ⟨arV a x, max (arV a x) x.we, max (arV a x) x.we + x.sv⟩ :: earlyT ⟨max (arV a x) x.we + x.sv, x.px, x.py⟩ xs
def LeT (y z : Tm) : Prop := y.ar ≤ z.ar ∧ y.be ≤ z.be ∧ y.lv ≤ z.lv
inductive LeL : List Tm → List Tm → Prop
 | nil : LeL [] []
 | cons {y z ys zs} : LeT y z → LeL ys zs → LeL (y :: ys) (z :: zs)
theorem LeL.get : ∀ {a b : List Tm}, LeL a b → a.length = b.length ∧ ∀ (i : Nat) (y z : Tm), a[i]? = some y → b[i]? = some z → LeT y z
 | _, _, .nil => ⟨rfl, fun i y z h => by cases h⟩
 | _, _, .cons h r => by
  obtain ⟨h1, h2⟩ := r.get
  refine ⟨by simp [h1], fun i y z hy hz => ?_⟩
  cases i with
  | zero =>
   simp at hy hz
   subst hy hz
   exact h
  | succ i => exact h2 i y z (by simpa using hy) (by simpa using hz)
theorem keptB_iff {x : Vi} {n : Int} {y : Tm} : keptB x n y = true ↔ n ≤ y.ar ∧ y.ar ≤ y.be ∧ (x.we ≤ y.be ∧ y.be ≤ x.wl) ∧ y.lv = y.be + x.sv := by
 simp only [keptB, Bool.and_eq_true, decide_eq_true_eq, and_assoc]
end Go.Proofs.YteclpblfleakhaaGreatDoor.Feas
namespace Go.Proofs.YteclpblfleakhaaGreatDoor.Feas
open Go.RowKit Go.Proofs.YteclpblfleakhaaGreatDoor.Mem Go.Proofs.YteclpblfleakhaaGreatDoor.Route
set_option linter.unusedVariables false
def FateAt (w : World) (b n : Nat) (f : Int → Option Int) : Prop :=
 ∃ D : DataW Unit, w.ownsMap Tryz.prog 3 (plainElem Tryz.prog 217) b n D ∧
  ∀ r, Maps.has D (.int .i64 r) = (f r).isSome ∧ D.atKey (.int .i64 r) (.lit (.int .i64 0)) = .lit (.int .i64 ((f r).getD 0))
variable {w v : World} {b n : Nat} {f : Int → Option Int}
theorem FateAt.inside (h : FateAt w b n f) : b < w.heap.size := h.elim fun _ h => h.1.lt
theorem FateAt.same (h : FateAt w b n f) (e : v.heap[b]? = w.heap[b]?) : FateAt v b n f := by
 obtain ⟨D, ⟨es, clock, h1, h2⟩, h3⟩ := h
 exact ⟨D, ⟨es, clock, e.trans h1, h2⟩, h3⟩
theorem FateAt.keep (h : FateAt w b n f) {B : Nat} (hb : Below B w v) (hB : b < B) : FateAt v b n f := h.same (hb.block b hB)
theorem FateAt.alloc (h : FateAt w b n f) (o : Obj) : FateAt (w.alloc o) b n f := h.same (Below.heap_alloc w o b h.inside)
theorem FateAt.far (h : FateAt w b n f) {a : Addr} (ha : b ≠ a.block) (u : Value) : FateAt (w.setCell a u) b n f := h.same (Below.heap_setCell w a u b ha)
theorem FateAt.funs (h : FateAt w b n f) {g : Int → Option Int} (e : ∀ r, g r = f r) : FateAt w b n g := by
 have : g = f := funext e
 rw [this]; exact h
theorem FateAt.made (w : World) : FateAt (w.alloc (.map #[] 0)) w.heap.size 0 (fun _ => none) :=
 ⟨_, World.ownsMap_made w _ _ _, fun r => ⟨rfl, rfl⟩⟩
theorem FateAt.no_cells (h : FateAt w b n f) {g : Nat} {t : TypeId} {cs : Array Value} (hg : At w g t cs) : b ≠ g := by
 rintro rfl
 obtain ⟨D, ⟨es, clock, h1, h2⟩, h3⟩ := h
 have h4 : w.heap[b]? = some (.cells cs t (0, 0)) := hg
 rw [h4] at h1
 cases h1
def fateF (l : List (Int × Int)) (r : Int) : Option Int := if (ofR r l).length = 0 then none else some ((ofR r l).length : Nat)
theorem fateF_get (l : List (Int × Int)) (r : Int) : (fateF l r).getD 0 = ((ofR r l).length : Nat) := by
 unfold fateF
 split
 · rename_i h; rw [h]; rfl
 · rfl
theorem fateF_nil (r : Int) : fateF [] r = none := by simp [fateF, ofR]
theorem fateF_next (l : List (Int × Int)) (s : Int × Int) (q : Int) : fateF (l ++ [s]) q = (fun q => if q = s.1 then some (((ofR s.1 l).length : Int) + 1) else fateF l q) q := by
 unfold fateF
 simp only
 rw [ofR_append]
 by_cases hq : q = s.1
 · subst hq
   rw [ofR_cons_same rfl, List.length_append, if_neg (by simp), if_pos rfl]
   simp [ofR]
 · rw [ofR_cons_other (fun e => hq e.symm), if_neg hq, show ofR q [] = [] from rfl, List.append_nil]
end Go.Proofs.YteclpblfleakhaaGreatDoor.Feas
namespace Go.Proofs.YteclpblfleakhaaGreatDoor.Feas
open Go.RowKit Go.Proofs.YteclpblfleakhaaGreatDoor.Mem Go.Proofs.YteclpblfleakhaaGreatDoor.Route Go.Proofs.YteclpblfleakhaaGreatDoor.When Go.Proofs.YteclpblfleakhaaGreatDoor.Load Go.Proofs.YteclpblfleakhaaGreatDoor.Float Go.Proofs.YteclpblfleakhaaGreatDoor.Tail
set_option linter.unusedVariables false
structure Two (g m : Nat) (w w' : World) : Prop where
 os : w'.os = w.os
 tape : w'.tape = w.tape
 output : w'.output = w.output
 size : w.heap.size ≤ w'.heap.size
 block : ∀ k, k < w.heap.size → k ≠ g → k ≠ m → w'.heap[k]? = w.heap[k]?
theorem Two.of_below {g m : Nat} {w w' : World} (h : Below w.heap.size w w') : Two g m w w' := ⟨h.os, h.tape, h.output, h.size, fun k hk _ _ => h.block k hk⟩
theorem Two.refl (g m : Nat) (w : World) : Two g m w w := .of_below (Below.refl _ _)
theorem Two.trans {g m : Nat} {x y z : World} (h : Two g m x y) (k : Two g m y z) : Two g m x z :=
 ⟨k.os.trans h.os, k.tape.trans h.tape, k.output.trans h.output, Nat.le_trans h.size k.size, fun i hi hn hm => (k.block i (Nat.lt_of_lt_of_le hi h.size) hn hm).trans (h.block i hi hn hm)⟩
theorem Two.grown {g m : Nat} {w w' : World} {row : Option Nat} (h : w.grownBy w' row) (hr : ∀ k, row = some k → k = g ∨ k = m) : Two g m w w' :=
 ⟨h.os, h.tape, h.output, h.size, fun k hk hn hm => h.block k hk (fun e => by rcases hr k e.symm with h | h <;> omega)⟩
theorem Two.setG (g m : Nat) (w : World) (i : Nat) (x : Value) : Two g m w (w.setCell ⟨g, i, none⟩ x) := ⟨rfl, rfl, rfl, by simp, fun k _ hn _ => Below.heap_setCell _ _ _ _ hn⟩
theorem Two.below {g m B : Nat} {w w' : World} (h : Two g m w w') (hg : B ≤ g) (hm : B ≤ m) (hB : B ≤ w.heap.size) : Below B w w' :=
 ⟨h.os, h.tape, h.output, h.size, fun k hk => h.block k (by omega) (by omega) (by omega)⟩
theorem At.two {g m k : Nat} {w w' : World} {t : TypeId} {cs : Array Value} (h : At w k t cs) (hT : Two g m w w') (hg : k ≠ g) (hm : k ≠ m) : At w' k t cs := (hT.block k h.inside hg hm).trans h
theorem Two.on {g m : Nat} {x y z : World} (h : Two g m x y) (hb : Below y.heap.size y z) : Two g m x z := h.trans (.of_below hb)
theorem res_vis {fn : Func} {p : Tmp} (h : fn.results = #[.cell p 187]) {tmps : Array Value} {w : World} {g : Nat} {x0 x1 x2 x3 x4 : Value} (hp : tmps.getD p undef = .pointer (some ⟨g, 0, none⟩))
 (c0 : w.cell? ⟨g, 0, none⟩ = some x0) (c1 : w.cell? ⟨g, 1, none⟩ = some x1) (c2 : w.cell? ⟨g, 2, none⟩ = some x2) (c3 : w.cell? ⟨g, 3, none⟩ = some x3) (c4 : w.cell? ⟨g, 4, none⟩ = some x4) : (results fn tmps).run Tryz.prog w = .ok (.agg #[x0, x1, x2, x3, x4]) w := by
 have hp' : tmps[p]?.getD undef = .pointer (some ⟨g, 0, none⟩) := by simpa using hp
 simp only [results, h]
 go_simp
set_option maxHeartbeats 2000000 in
theorem visit_any (hx hy cp st en ld px py now s1 s2 : Int) (kv mv vt : Value) (g B : Nat) (t : List Rq) (x : Vi) (w : World) (hv : visO t (s1, s2) = some x)
 (hg : At w g 182 #[.int .i64 hx, .int .i64 hy, .int .i64 cp, .int .i64 st, .int .i64 en, vt, kv, mv, .int .i64 ld, .int .i64 px, .int .i64 py, .int .i64 now]) (hB : B ≤ w.heap.size) (hT : Rqs B w vt t) :
 Calls Tryz.prog 125 #[.pointer (some ⟨g, 0, none⟩), .agg #[.int .i64 s1, .int .i64 s2]] w fun e w' =>
  e = .returned (.agg #[.int .i64 x.px, .int .i64 x.py, .int .i64 x.we, .int .i64 x.wl, .int .i64 x.sv]) ∧ Below w.heap.size w w' := by
 obtain ⟨xt, N, cap, rfl, hN, hc1, hc2, hx0⟩ := hT.opened
 obtain ⟨q, hq, h0, h1, -, hk⟩ := visO_some hv
 simp only at hq h0 h1 hk
 obtain ⟨k, rfl⟩ : ∃ k : Nat, s1 = k := ⟨s1.toNat, by omega⟩
 simp only [Int.toNat_natCast] at hq
 have hk1 : k < N := by omega
 have hk2 : ((k : Int) < N) := by omega
 obtain ⟨n, hn⟩ : ∃ n, w.heap.size = n := ⟨_, rfl⟩
 obtain ⟨w1, hw1⟩ : ∃ w1, (w.alloc (.cells #[.int .i64 (k : Int), .int .i64 s2] 82)).alloc (.cells #[.int .i64 0, .int .i64 0, .int .i64 0, .int .i64 0, .int .i64 0] 187) = w1 := ⟨_, rfl⟩
 have hS : At w1 n 82 #[.int .i64 (k : Int), .int .i64 s2] := by rw [← hw1]; exact (At.new_ _ _ _ hn.symm).alloc _
 have hV : At w1 (n + 1) 187 #[.int .i64 0, .int .i64 0, .int .i64 0, .int .i64 0, .int .i64 0] := by rw [← hw1]; exact At.new_ _ _ _ (by simp [hn])
 have hG : At w1 g 182 #[.int .i64 hx, .int .i64 hy, .int .i64 cp, .int .i64 st, .int .i64 en, .slice xt N cap, kv, mv, .int .i64 ld, .int .i64 px, .int .i64 py, .int .i64 now] := by rw [← hw1]; exact (hg.alloc _).alloc _
 have hb1 : Below n w w1 := by rw [← hw1]; exact ((Below.refl _ _).alloc (by omega) _).alloc (by simp; omega) _
 obtain ⟨b, o, rfl, hb, c0, c1, c2, c3, c4, c5, c6, c7, c8, c9⟩ := (hT.keep hb1 (by omega)).at hq
 have hw1' := Lib.hid hw1
 have hn' := Lib.hid hn
 have hgn : g < n := by have := hg.inside; omega
 have hBn : B ≤ n := by omega
 have hbn : b < w1.heap.size := by have := hV.inside; omega
 have hk' := Lib.hid hk
 clear hN hx0 hv hg hw1 hT hn hk hq
 go_enter Tryz.func125, Tryz.ntmps125
 go_wp2_with fail
 simp only [hn'.out]
 rw [hw1'.out]
 refine wp_region_float1 8 5 (.cells #[.int .i64 0, .int .i64 0, .int .i64 0, .int .i64 0, .int .i64 0, .int .i64 0, .int .i64 0, .int .i64 0, .int .i64 0, .int .i64 0] 43) ?af (by kernel_rfl) (by kernel_rfl) (by kernel_rfl) ?hL ?hW ?hT
 case hL =>
  intro o ho a wz
  have ho' := (Option.some.inj ho).symm
  subst ho'
  simp only [ptr]
  go_simp
 case hW =>
  intro w0 hw0
  have hG0 := hG.keep hw0 hG.inside
  have hS0 := hS.keep hw0 hS.inside
  have c0 := (hw0.cell (p := ⟨b, o + k * 10, none⟩) hbn).trans c0
  have c1 := (hw0.cell (p := ⟨b, o + k * 10 + 1, none⟩) hbn).trans c1
  have c2 := (hw0.cell (p := ⟨b, o + k * 10 + 2, none⟩) hbn).trans c2
  have c3 := (hw0.cell (p := ⟨b, o + k * 10 + 3, none⟩) hbn).trans c3
  have c4 := (hw0.cell (p := ⟨b, o + k * 10 + 4, none⟩) hbn).trans c4
  have c5 := (hw0.cell (p := ⟨b, o + k * 10 + 5, none⟩) hbn).trans c5
  have c6 := (hw0.cell (p := ⟨b, o + k * 10 + 6, none⟩) hbn).trans c6
  have c7 := (hw0.cell (p := ⟨b, o + k * 10 + 7, none⟩) hbn).trans c7
  have c8 := (hw0.cell (p := ⟨b, o + k * 10 + 8, none⟩) hbn).trans c8
  have c9 := (hw0.cell (p := ⟨b, o + k * 10 + 9, none⟩) hbn).trans c9
  have g5 := hG0.cell 5
  have s0 := hS0.cell 0
  simp at g5 s0
  have kg5 := cell_regrown g5
  have ks0 := cell_regrown s0
  have kc0 := cell_regrown c0
  have kc1 := cell_regrown c1
  have kc2 := cell_regrown c2
  have kc3 := cell_regrown c3
  have kc4 := cell_regrown c4
  have kc5 := cell_regrown c5
  have kc6 := cell_regrown c6
  have kc7 := cell_regrown c7
  have kc8 := cell_regrown c8
  have kc9 := cell_regrown c9
  simp only [List.take_succ_cons, List.take_zero]
  repeat (go_big_quiet_step (fail))
  refine wpQuiet_nil ?_
  rfl
 case hT =>
  intro gn w2 hg2 hob hb2
  have hR : At w2 gn 43 #[.int .i64 0, .int .i64 0, .int .i64 0, .int .i64 0, .int .i64 0, .int .i64 0, .int .i64 0, .int .i64 0, .int .i64 0, .int .i64 0] := hob
  have hvi := hV.inside
  have hV2 := hV.keep hb2 hV.inside
  have hS2 := hS.keep hb2 hS.inside
  have hB2 := hb1.trans (hb2.mono (by omega))
  have hgn2 : n + 1 < gn := by omega
  clear hob hb2 hb1 hV hS hG
  simp only [List.drop_succ_cons, List.drop_zero]
  have r0 := hR.cell 0
  have r1 := hR.cell 1
  have r2 := hR.cell 2
  have r3 := hR.cell 3
  have r4 := hR.cell 4
  have r5 := hR.cell 5
  have r6 := hR.cell 6
  have r7 := hR.cell 7
  have r8 := hR.cell 8
  have r9 := hR.cell 9
  have rf := hR.free
  simp at r0 r1 r2 r3 r4 r5 r6 r7 r8 r9
  go_upto_region 2 with fail
  have hR3 := put10 (y0 := .int .i64 q.fx) (y1 := .int .i64 q.fy) (y2 := .int .i64 q.tx) (y3 := .int .i64 q.ty) (y4 := .int .i64 q.pe) (y5 := .int .i64 q.pl) (y6 := .int .i64 q.de) (y7 := .int .i64 q.dl) (y8 := .int .i64 q.ld) (y9 := .int .i64 q.sv) hR
  obtain ⟨w3, hw3⟩ : ∃ w3, ((((((((((w2.setCell ⟨gn, 0, none⟩ (.int .i64 q.fx)).setCell ⟨gn, 1, none⟩ (.int .i64 q.fy)).setCell ⟨gn, 2, none⟩ (.int .i64 q.tx)).setCell ⟨gn, 3, none⟩ (.int .i64 q.ty)).setCell ⟨gn, 4, none⟩ (.int .i64 q.pe)).setCell ⟨gn, 5, none⟩ (.int .i64 q.pl)).setCell ⟨gn, 6, none⟩ (.int .i64 q.de)).setCell ⟨gn, 7, none⟩ (.int .i64 q.dl)).setCell ⟨gn, 8, none⟩ (.int .i64 q.ld)).setCell ⟨gn, 9, none⟩ (.int .i64 q.sv)) = w3 := ⟨_, rfl⟩
  have hfar : ∀ (k : Nat) (t : TypeId) (cs : Array Value), At w2 k t cs → k ≠ gn → At w3 k t cs := fun k t cs h hk => by
   rw [← hw3]
   exact (((((((((h.far hk _ _).far hk _ _).far hk _ _).far hk _ _).far hk _ _).far hk _ _).far hk _ _).far hk _ _).far hk _ _).far hk _ _
  have hV3 := hfar _ _ _ hV2 (by omega)
  have hS3 := hfar _ _ _ hS2 (by omega)
  have hB3 : Below n w w3 := by
   rw [← hw3]
   exact (((((((((hB2.setCell (by simp; omega) _).setCell (by simp; omega) _).setCell (by simp; omega) _).setCell (by simp; omega) _).setCell (by simp; omega) _).setCell (by simp; omega) _).setCell (by simp; omega) _).setCell (by simp; omega) _).setCell (by simp; omega) _).setCell (by simp; omega) _
  rw [hw3] at hR3 ⊢
  clear hfar hw3 hR hV2 hS2 hB2 r0 r1 r2 r3 r4 r5 r6 r7 r8 r9 rf
  have r0 := hR3.cell 0
  have r1 := hR3.cell 1
  have r2 := hR3.cell 2
  have r3 := hR3.cell 3
  have r4 := hR3.cell 4
  have r5 := hR3.cell 5
  have r6 := hR3.cell 6
  have r7 := hR3.cell 7
  have r9 := hR3.cell 9
  have s1 := hS3.cell 1
  have v0 := hV3.cell 0
  have v1 := hV3.cell 1
  have v2 := hV3.cell 2
  have v3 := hV3.cell 3
  have v4 := hV3.cell 4
  have vf := hV3.free
  simp at r0 r1 r2 r3 r4 r5 r6 r7 r9 s1 v0 v1 v2 v3 v4
  rcases hk'.out with ⟨rfl, rfl⟩ | ⟨rfl, rfl⟩
  · clear hk'
    go_wp2
    refine bodyPost_ret (res_vis rfl rfl (x0 := .int .i64 q.fx) (x1 := .int .i64 q.fy) (x2 := .int .i64 q.pe) (x3 := .int .i64 q.pl) (x4 := .int .i64 q.sv) (by go_simp) (by go_simp) (by go_simp) (by go_simp) (by go_simp)) rfl ?_
    exact ⟨rfl, by rw [hn'.out]; exact ((((hB3.setCell (by simp) _).setCell (by simp) _).setCell (by simp) _).setCell (by simp) _).setCell (by simp) _⟩
  · clear hk'
    go_wp2
    refine bodyPost_ret (res_vis rfl rfl (x0 := .int .i64 q.tx) (x1 := .int .i64 q.ty) (x2 := .int .i64 q.de) (x3 := .int .i64 q.dl) (x4 := .int .i64 q.sv) (by go_simp) (by go_simp) (by go_simp) (by go_simp) (by go_simp)) rfl ?_
    exact ⟨rfl, by rw [hn'.out]; exact ((((hB3.setCell (by simp) _).setCell (by simp) _).setCell (by simp) _).setCell (by simp) _).setCell (by simp) _⟩
theorem ret_nb {a b : Int} {c d : Bool} (h : a = b) (h2 : c = d) : Ending.returned (.tuple #[.int .i64 a, .bool c]) = .returned (.tuple #[.int .i64 b, .bool d]) := by rw [h, h2]
set_option maxHeartbeats 2000000 in
theorem earliest_any (k px py we wl sv n : Int) (h1 : -1000000000 ≤ n ∧ n ≤ 1000000000) (h2 : 0 ≤ we ∧ we ≤ 1000000000) (h3 : 0 ≤ sv ∧ sv ≤ 1000) (w : World) :
 Calls Tryz.prog 78 #[.int .i64 k, .agg #[.int .i64 px, .int .i64 py, .int .i64 we, .int .i64 wl, .int .i64 sv], .int .i64 n] w fun e w' =>
  e = .returned (.tuple #[.int .i64 (max n we + sv), .bool (decide (n ≤ wl))]) ∧ Below w.heap.size w w' := by
 have hb0 : Below w.heap.size w (w.alloc (.cells #[.int .i64 px, .int .i64 py, .int .i64 we, .int .i64 wl, .int .i64 sv] 187)) := (Below.refl _ _).alloc (Nat.le_refl _) _
 have hV := At.new w 187 #[.int .i64 px, .int .i64 py, .int .i64 we, .int .i64 wl, .int .i64 sv]
 obtain ⟨h11, h12⟩ := h1
 obtain ⟨h21, h22⟩ := h2
 obtain ⟨h31, h32⟩ := h3
 go_enter Tryz.func78, Tryz.ntmps78
 go_wp2_with fail
 generalize (w.alloc (.cells #[.int .i64 px, .int .i64 py, .int .i64 we, .int .i64 wl, .int .i64 sv] 187)) = w0 at *
 have c2 := hV.cell 2
 have c3 := hV.cell 3
 have c4 := hV.cell 4
 simp at c2 c3 c4
 go_quiet (fail)
 go_wp2
 refine bodyPost_ret (v := .tuple #[.int .i64 (max n we + sv), .bool (decide (n ≤ wl))]) (by simp [results, Tryz.results78, go_sem]) rfl ?_
 exact ⟨ret_nb rfl rfl, below_drewN hb0 nq⟩
end Go.Proofs.YteclpblfleakhaaGreatDoor.Feas
namespace Go.Proofs.YteclpblfleakhaaGreatDoor.Feas
open Go.RowKit Go.Sort Go.Proofs.YteclpblfleakhaaGreatDoor.Mem Go.Proofs.YteclpblfleakhaaGreatDoor.Route Go.Proofs.YteclpblfleakhaaGreatDoor.When Go.Proofs.YteclpblfleakhaaGreatDoor.Load Go.Proofs.YteclpblfleakhaaGreatDoor.Float Go.Proofs.YteclpblfleakhaaGreatDoor.Tail
set_option linter.unusedVariables false
theorem stB_out {t : List Rq} {pre : List (Int × Int)} {s1 s2 : Int} (h : inT t s1 = false) : stB t pre (s1, s2) = false := by simp [stB, h]
theorem stB_val {t : List Rq} {pre : List (Int × Int)} {s1 s2 : Int} {c : Nat} (h : inT t s1 = true) (hc : (ofR s1 pre).length = c) (b : Bool) (hb : ((decide (s2 = 0) && decide ((c : Int) = 0)) || (decide (s2 = 1) && decide ((c : Int) = 1))) = b) : stB t pre (s1, s2) = b := by
 rw [← hb, Bool.eq_iff_iff, stB_iff]
 simp only [nR, hc, Bool.or_eq_true, Bool.and_eq_true, decide_eq_true_eq]
 simp only [inT, Bool.and_eq_true, decide_eq_true_eq] at h
 constructor
 · rintro ⟨_, h1, h2⟩; omega
 · intro h1; exact ⟨h, by omega, by omega⟩
theorem acc_pick {t : List Rq} {pre : List (Int × Int)} {r : Int} {q : Rq} (h : t[r.toNat]? = some q) : acc t pre + q.ld = acc t (pre ++ [(r, 0)]) := by rw [acc_snoc]; simp [stN, sg, ldR_get h]
theorem acc_drop {t : List Rq} {pre : List (Int × Int)} {r : Int} {q : Rq} (h : t[r.toNat]? = some q) : acc t pre - q.ld = acc t (pre ++ [(r, 1)]) := by rw [acc_snoc]; simp [stN, sg, ldR_get h]; omega
theorem own_same {w v : World} {b n : Nat} {D : DataW Unit} (h : w.ownsMap Tryz.prog 3 (plainElem Tryz.prog 217) b n D) (e : v.heap[b]? = w.heap[b]?) : v.ownsMap Tryz.prog 3 (plainElem Tryz.prog 217) b n D := by
 obtain ⟨es, clock, h1, h2⟩ := h
 exact ⟨es, clock, e.trans h1, h2⟩
theorem fate_wf {c : Int} (h : c = 1 ∨ c = 2) : (Lit.int .i64 c).wf = true := I64.wf ⟨by omega, by omega⟩
set_option maxRecDepth 100000 in
set_option maxHeartbeats 4000000 in
theorem take_any (hx hy cp st en px py now : Int) (vt kv : Value) (g mb n B : Nat) (t : List Rq) (pre : List (Int × Int)) (s1 s2 : Int) (w : World) (hn : n < 1000000) (hI : I64 s1) (hacc : -1000000000 ≤ acc t pre ∧ acc t pre ≤ 1000000000) (hld : ∀ q ∈ t, 1 ≤ q.ld ∧ q.ld ≤ 1000)
 (hg : At w g 182 #[.int .i64 hx, .int .i64 hy, .int .i64 cp, .int .i64 st, .int .i64 en, vt, kv, .map (some mb), .int .i64 (acc t pre), .int .i64 px, .int .i64 py, .int .i64 now]) (hm : FateAt w mb n (fateF pre)) (hT : Rqs B w vt t) (hB : B ≤ w.heap.size) (hBg : B ≤ g ∧ B ≤ mb) :
 Calls Tryz.prog 120 #[.pointer (some ⟨g, 0, none⟩), .agg #[.int .i64 s1, .int .i64 s2]] w fun e w' =>
  e = .returned (.bool (stB t pre (s1, s2))) ∧ (stB t pre (s1, s2) = true → At w' g 182 #[.int .i64 hx, .int .i64 hy, .int .i64 cp, .int .i64 st, .int .i64 en, vt, kv, .map (some mb), .int .i64 (acc t (pre ++ [(s1, s2)])), .int .i64 px, .int .i64 py, .int .i64 now] ∧ FateAt w' mb (n + 1) (fateF (pre ++ [(s1, s2)]))) ∧ Two g mb w w' := by
 obtain ⟨xt, N, cap, rfl, hN, hc1, hc2, hx0⟩ := hT.opened
 have hgm : mb ≠ g := hm.no_cells hg
 obtain ⟨m, hmq⟩ : ∃ m, w.heap.size = m := ⟨_, rfl⟩
 obtain ⟨w1, hw1⟩ : ∃ w1, w.alloc (.cells #[.int .i64 s1, .int .i64 s2] 82) = w1 := ⟨_, rfl⟩
 have hS : At w1 m 82 #[.int .i64 s1, .int .i64 s2] := by rw [← hw1]; exact At.new_ _ _ _ hmq.symm
 have hG : At w1 g 182 #[.int .i64 hx, .int .i64 hy, .int .i64 cp, .int .i64 st, .int .i64 en, .slice xt N cap, kv, .map (some mb), .int .i64 (acc t pre), .int .i64 px, .int .i64 py, .int .i64 now] := by rw [← hw1]; exact hg.alloc _
 have hM : FateAt w1 mb n (fateF pre) := by rw [← hw1]; exact hm.alloc _
 have hb1 : Below w.heap.size w w1 := by rw [← hw1]; exact (Below.refl _ _).alloc (Nat.le_refl _) _
 have hT1 := hT.keep hb1 hB
 have hTw : Two g mb w w1 := .of_below hb1
 have hgi := hg.inside
 have hmi := hm.inside
 have hgne : g ≠ m := by omega
 have hmne : mb ≠ m := by omega
 have hw1' := Lib.hid hw1
 have hmq' := Lib.hid hmq
 have hx0' := Lib.hid hx0
 have hN' := Lib.hid hN
 have hld' := Lib.hid hld
 clear hg hm hT hw1 hmq hx0 hN hld hb1
 obtain ⟨A, hA⟩ : ∃ A, acc t pre = A := ⟨_, rfl⟩
 rw [hA] at hG hacc
 have hA' := Lib.hid hA
 obtain ⟨ha1, ha2⟩ := hacc
 have s0 := hS.cell 0
 have s1' := hS.cell 1
 have g5 := hG.cell 5
 simp at s0 s1' g5
 clear hA hgi hmi
 cases d0 : decide (s1 < 0)
 case true =>
  have hF := Lib.hid (stB_out (t := t) (pre := pre) (s1 := s1) (s2 := s2) (by simp [inT]; have := of_decide_eq_true d0; omega))
  go_enter Tryz.func120, Tryz.ntmps120
  go_wp2_with fail
  rw [hw1'.out]
  simp only [hmq'.out]
  go_quiet (fail)
  go_wp2
  go_ret
  exact ⟨ret_bool hF.out.symm, fun h => (by rw [hF.out] at h; cases h), hTw.on (below_drewN (Below.refl _ _) nq)⟩
 case false =>
 cases d1 : decide ((N : Int) ≤ s1)
 case true =>
  have hF := Lib.hid (stB_out (t := t) (pre := pre) (s1 := s1) (s2 := s2) (by simp [inT]; have := of_decide_eq_true d1; have := hN'.out; intro _; omega))
  go_enter Tryz.func120, Tryz.ntmps120
  go_wp2_with fail
  rw [hw1'.out]
  simp only [hmq'.out]
  go_quiet (fail)
  go_wp2
  go_ret
  exact ⟨ret_bool hF.out.symm, fun h => (by rw [hF.out] at h; cases h), hTw.on (below_drewN (Below.refl _ _) nq)⟩
 case false =>
 have e0 := of_decide_eq_false d0
 have e1 := of_decide_eq_false d1
 have hi : inT t s1 = true := by simp only [inT, Bool.and_eq_true, decide_eq_true_eq]; have := hN'.out; omega
 obtain ⟨q, hq, _, _⟩ := inT_get hi
 obtain ⟨k, rfl⟩ : ∃ k : Nat, s1 = k := ⟨s1.toNat, by omega⟩
 have hqk : t[k]? = some q := by simpa using hq
 have hkey := key_lit hI
 obtain ⟨c, hc⟩ : ∃ c : Nat, (ofR (k : Int) pre).length = c := ⟨_, rfl⟩
 have hst := Lib.hid (fun b hb => stB_val (t := t) (pre := pre) (s1 := k) (s2 := s2) hi hc b hb)
 obtain ⟨b, o, rfl, hbl, c0, c1, c2, c3, c4, c5, c6, c7, c8, c9⟩ := hT1.at hqk
 have hq1 := Lib.hid (acc_pick (t := t) (pre := pre) (r := k) hq)
 have hq2 := Lib.hid (acc_drop (t := t) (pre := pre) (r := k) hq)
 have hlq := hld'.out q (List.mem_of_getElem? hqk)
 obtain ⟨hl1, hl2⟩ := hlq
 have hk1 : k < N := by omega
 have hk2 : ((k : Int) < N) := by omega
 have g7 := hG.cell 7
 simp at g7
 have hMf := Lib.hid (fun q => fateF_next pre ((k : Int), s2) q)
 have hc' := Lib.hid hc
 clear hq hqk hi hT1 hc hI hc2
 go_enter Tryz.func120, Tryz.ntmps120
 go_wp2_with fail
 rw [hw1'.out]
 simp only [hmq'.out]
 go_quiet (fail)
 have hG2 := hG.drewN nq
 have hS2 := hS.drewN nq
 have hM2 : FateAt (w1.drewN nq) mb n (fateF pre) := hM.same rfl
 have hb2 : Below w1.heap.size w1 (w1.drewN nq) := below_drewN (Below.refl _ _) nq
 have hTw2 := hTw.on hb2
 have hbl1 : b < w1.heap.size := by have := hS.inside; have := hmq'.out; omega
 have d0' := (hb2.cell (p := ⟨b, o + k * 10 + 8, none⟩) hbl1).trans c8
 clear c0 c1 c2 c3 c4 c5 c6 c7 c8 c9 s0 s1' g5 g7 hG hS hM hb2 hTw hw1' hbl1
 generalize w1.drewN nq = w2 at *
 have s0 := hS2.cell 0
 have g5 := hG2.cell 5
 have g7 := hG2.cell 7
 simp at s0 g5 g7
 obtain ⟨D, hown, hD⟩ := hM2
 have hcc : D.atKey (.int .i64 (k : Int)) (.lit (.int .i64 0)) = .lit (.int .i64 (c : Int)) := by rw [(hD k).2, fateF_get, hc'.out]
 have klook : ∀ n, (Instr.lookup 180 (.map (some mb)) (.int .i64 (k : Int)) false).run Tryz.prog (w2.drewN n) = .ok (.int .i64 (c : Int)) (w2.drewN n) := by
  intro n
  have hown2 : (w2.drewN n).ownsMap Tryz.prog 3 (plainElem Tryz.prog 217) mb _ D := hown
  obtain ⟨c2, hr2, ha2, _⟩ := hown2.lookup_int (t := 180) (Maps.int_keyed Tryz.underlying3) Tryz.underlying180 Tryz.underlying217 (Tryz.zeroValue217 _) hkey
  have : c2 = c := lit_inj (ha2.symm.trans hcc)
  rw [hr2, this]
 have hD' := Lib.hid hD
 clear hcc hD
 go_upto_region 3 with fail
 go_quiet (fail)
 have hG3 := hG2.drewN nq
 have hS3 := hS2.drewN nq
 have hown3 : (w2.drewN nq).ownsMap Tryz.prog 3 (plainElem Tryz.prog 217) mb n D := hown
 have hTw3 := hTw2.on (below_drewN (Below.refl w2.heap.size w2) nq)
 clear klook s0 g5 g7 hG2 hS2 hTw2 hown d0'
 generalize w2.drewN nq = w3 at *
 have s0 := hS3.cell 0
 have s1' := hS3.cell 1
 have g7 := hG3.cell 7
 simp at s0 s1' g7
 cases z0 : (s2 == 0)
 case true =>
  obtain rfl : s2 = 0 := by simpa using z0
  clear z0
  cases z1 : ((c : Int) == 0)
  case true =>
   obtain rfl : c = 0 := by simpa using z1
   clear z1
   have hF := Lib.hid (hst.out true (by simp))
   have ks0 := cell_regrown s0
   have kg7 := cell_regrown g7
   go_upto_region 6 with fail
   refine wp_region_below_tail 6 (by kernel_rfl) (by kernel_rfl) (by kernel_rfl) ?_
   simp only [List.take_succ_cons, List.take_zero, List.drop_succ_cons, List.drop_zero]
   repeat (go_big_quiet_step (fail))
   refine wpQuiet_nil ?_
   intro _ hw'
   obtain ⟨⟨dq, osq⟩, hw''⟩ := hw'
   subst hw''
   have hb4 := below_regrown w3 dq osq
   have hG4 := hG3.keep hb4 hG3.inside
   have hown4 := own_same hown3 (hb4.block mb hown3.lt)
   have hTw4 := hTw3.on hb4
   clear ks0 kg7 s0 s1' g7 hG3 hS3 hTw3 hown3 hb4
   generalize grow (redrawn w3 dq) osq = w4 at *
   go_upto_region 7 with (at_mapUpdate; refine wpList_mapUpdate_own _ rfl _ _ _ 180 rfl 3 217 (Maps.int_keyed Tryz.underlying3) Tryz.underlying180 _ mb n D rfl hown4 (by unfold maxLen; omega) _ _ _ rfl rfl hkey _ [] (plainElem_int Tryz.underlying217 (fate_wf (.inl rfl))) ?_; intro w5 hown5 hgrow5)
   have hG5 : At w5 g 182 _ := (hgrow5.block g hG4.inside (fun e => by cases e; exact hgm rfl)).trans hG4
   have hM5 : FateAt w5 mb (n + 1) (fateF (pre ++ [((k : Int), 0)])) := FateAt.funs ⟨_, hown5, put_tells hown4.isMap hD'.out trivial⟩ (fun q => by rw [hMf.out q, hc'.out]; rfl)
   have hTw5 := hTw4.trans (.grown hgrow5 (fun r e => by cases e; exact .inr rfl))
   clear hown4 hown5 hgrow5 hG4 hTw4
   have g8 := hG5.cell 8
   have gf := hG5.free
   have hgi := hG5.inside
   simp at g8
   go_wp2
   go_ret
   refine ⟨ret_bool hF.out.symm, fun _ => ⟨?_, hM5.far hgm _⟩, hTw5.trans (.setG _ _ _ _ _)⟩
   rw [← hq1.out, hA'.out]
   simpa using hG5.put 8 (.int .i64 (A + q.ld))
  case false =>
   have hF := Lib.hid (hst.out false (by simp at z1 ⊢; exact z1))
   go_wp2
   go_ret
   exact ⟨ret_bool hF.out.symm, fun h => (by rw [hF.out] at h; cases h), hTw3⟩
 case false =>
  cases z2 : (s2 == 1)
  case true =>
   obtain rfl : s2 = 1 := by simpa using z2
   clear z2 z0
   cases z3 : ((c : Int) == 1)
   case true =>
    obtain rfl : c = 1 := by have : (c : Int) = 1 := (by simpa using z3); omega
    clear z3
    have hF := Lib.hid (hst.out true (by simp))
    have ks0 := cell_regrown s0
    have kg7 := cell_regrown g7
    go_upto_region 9 with fail
    refine wp_region_below_tail 6 (by kernel_rfl) (by kernel_rfl) (by kernel_rfl) ?_
    simp only [List.take_succ_cons, List.take_zero, List.drop_succ_cons, List.drop_zero]
    repeat (go_big_quiet_step (fail))
    refine wpQuiet_nil ?_
    intro _ hw'
    obtain ⟨⟨dq, osq⟩, hw''⟩ := hw'
    subst hw''
    have hb4 := below_regrown w3 dq osq
    have hG4 := hG3.keep hb4 hG3.inside
    have hown4 := own_same hown3 (hb4.block mb hown3.lt)
    have hTw4 := hTw3.on hb4
    clear ks0 kg7 s0 s1' g7 hG3 hS3 hTw3 hown3 hb4
    generalize grow (redrawn w3 dq) osq = w4 at *
    go_upto_region 10 with (at_mapUpdate; refine wpList_mapUpdate_own _ rfl _ _ _ 180 rfl 3 217 (Maps.int_keyed Tryz.underlying3) Tryz.underlying180 _ mb n D rfl hown4 (by unfold maxLen; omega) _ _ _ rfl rfl hkey _ [] (plainElem_int Tryz.underlying217 (fate_wf (.inr rfl))) ?_; intro w5 hown5 hgrow5)
    have hG5 : At w5 g 182 _ := (hgrow5.block g hG4.inside (fun e => by cases e; exact hgm rfl)).trans hG4
    have hM5 : FateAt w5 mb (n + 1) (fateF (pre ++ [((k : Int), 1)])) := FateAt.funs ⟨_, hown5, put_tells hown4.isMap hD'.out trivial⟩ (fun q => by rw [hMf.out q, hc'.out]; rfl)
    have hTw5 := hTw4.trans (.grown hgrow5 (fun r e => by cases e; exact .inr rfl))
    clear hown4 hown5 hgrow5 hG4 hTw4
    have g8 := hG5.cell 8
    have gf := hG5.free
    have hgi := hG5.inside
    simp at g8
    go_wp2
    go_ret
    refine ⟨ret_bool hF.out.symm, fun _ => ⟨?_, hM5.far hgm _⟩, hTw5.trans (.setG _ _ _ _ _)⟩
    rw [← hq2.out, hA'.out]
    simpa using hG5.put 8 (.int .i64 (A - q.ld))
   case false =>
    have hF := Lib.hid (hst.out false (by simp at z3 ⊢; exact z3))
    go_wp2
    go_ret
    exact ⟨ret_bool hF.out.symm, fun h => (by rw [hF.out] at h; cases h), hTw3⟩
  case false =>
   have hF := Lib.hid (hst.out false (by simp at z0 z2; simp [z0, z2]))
   go_wp2
   go_ret
   exact ⟨ret_bool hF.out.symm, fun h => (by rw [hF.out] at h; cases h), hTw3⟩
end Go.Proofs.YteclpblfleakhaaGreatDoor.Feas

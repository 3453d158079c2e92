import Derived.Test.YthjdacbgcpldjaaDoorPkUp

/-
  What package feas answers, in plain numbers and lists: a walk from stop to stop by a pace, up to the first one at which something is wrong. No program is spoken of here.
-/
namespace Go.Proofs.YthjdacbgcpldjaaDoor.Feas
open Go.Proofs.YthjdacbgcpldjaaDoor.Order Go.Proofs.YthjdacbgcpldjaaDoor.Place Go.Proofs.YthjdacbgcpldjaaDoor.Route Go.Proofs.YthjdacbgcpldjaaDoor.When Go.Proofs.YthjdacbgcpldjaaDoor.Load
set_option linter.unusedVariables false

/-- How many stops of a request there are: what became of it. -/
def nR (r : Int) (l : List (Int × Int)) : Int := (ofR r l).length
theorem nR_snoc (r : Int) (l : List (Int × Int)) (s : Int × Int) : nR r (l ++ [s]) = nR r l + (if s.1 = r then 1 else 0) := by
  unfold nR
  rw [ofR_append]
  by_cases h : s.1 = r
  · rw [ofR_cons_same h, if_pos h]; simp [ofR]
  · rw [ofR_cons_other h, if_neg h]; simp [ofR]
theorem nR_nonneg (r : Int) (l : List (Int × Int)) : 0 ≤ nR r l := by unfold nR; omega

/-- May a stop stand behind these? -/
def stB (t : List Rq) (pre : List (Int × Int)) (s : Int × Int) : Bool := inT t s.1 && (decide (s.2 = 0) || decide (s.2 = 1)) && decide (nR s.1 pre = s.2)
theorem stB_iff {t : List Rq} {pre : List (Int × Int)} {s : Int × Int} : stB t pre s = true ↔ (0 ≤ s.1 ∧ s.1 < t.length) ∧ (s.2 = 0 ∨ s.2 = 1) ∧ nR s.1 pre = s.2 := by
  simp only [stB, inT, Bool.and_eq_true, Bool.or_eq_true, decide_eq_true_eq, and_assoc]

/-- A pace: when the stop k is left by one who can be there at a time; and is it served. -/
abbrev Pace := Nat → Vi → Int → Int × Bool
def earlyP : Pace := fun _ x n => (max n x.we + x.sv, decide (n ≤ x.wl))
def noTm : Tm := ⟨0, 0, 0⟩
def tmAt (ts : List Tm) (k : Nat) : Tm := (ts[k]?).getD noTm
def keptB (x : Vi) (n : Int) (y : Tm) : Bool := decide (n ≤ y.ar) && decide (y.ar ≤ y.be) && (decide (x.we ≤ y.be) && decide (y.be ≤ x.wl)) && decide (y.lv = y.be + x.sv)
def keptP (ts : List Tm) : Pace := fun k x n => ((tmAt ts k).lv, keptB x n (tmAt ts k))

/-- What is wrong with a stop behind these; where one is behind it. -/
def goP (P : Pace) (k : Nat) (a : Sp) (x : Vi) : Sp := ⟨(P k x (arV a x)).1, x.px, x.py⟩
def srvV (v : Vh) (t : List Rq) (P : Pace) (pre : List (Int × Int)) (a : Sp) (s : Int × Int) : Int :=
  if 16 ≤ pre.length then 11 else if stB t pre s = false then 8 else if v.cp < acc t (pre ++ [s]) then 10 else if (P pre.length (visV t s) (arV a (visV t s))).2 = false then 9 else 0
/-- From stop to stop: what is wrong first, how many are ahead of it, where one is then. -/
def walkV (v : Vh) (t : List Rq) (P : Pace) : List (Int × Int) → Sp → List (Int × Int) → Int × Nat × Sp
  | pre, a, [] => (0, pre.length, a)
  | pre, a, s :: rest => if srvV v t P pre a s = 0 then walkV v t P (pre ++ [s]) (goP P pre.length a (visV t s)) rest else (srvV v t P pre a s, pre.length, a)
def homeE (v : Vh) (t : List Rq) (l : List (Int × Int)) (a : Sp) : Int := if 0 < acc t l then 8 else if v.en < arV a (homeV v) then 9 else 0
/-- The first request that may not be. -/
def fstBad : Nat → List Rq → Int
  | _, [] => -1
  | k, q :: t => if q.chk = 0 then fstBad (k + 1) t else k
def badK (t : List Rq) : Int := fstBad 0 t
def lookV (v : Vh) (l : List (Int × Int)) (t : List Rq) (P : Pace) : Int × Int × Int :=
  if v.chk ≠ 0 then (2, 0, 0) else if 0 ≤ badK t then (2, 1, badK t) else
    let y := walkV v t P [] (sp0 v) l
    if y.1 ≠ 0 then (y.1, 2, (y.2.1 : Int)) else (homeE v t l y.2.2, 3, (l.length : Int))
/-- What Check tells. -/
def faultV (v : Vh) (l : List (Int × Int)) (t : List Rq) : Int × Int × Int := if (lookV v l t earlyP).1 = 0 then (0, 0, 0) else lookV v l t earlyP
def rightB (v : Vh) (l : List (Int × Int)) (t : List Rq) (ts : List Tm) : Bool := decide (ts.length = l.length) && decide ((lookV v l t (keptP ts)).1 = 0)

theorem fstBad_all : ∀ {t : List Rq} {k : Nat}, (∀ q ∈ t, q.chk = 0) → fstBad k t = -1
  | [], k, _ => rfl
  | q :: t, k, h => by
    rw [fstBad, if_pos (h q (List.mem_cons_self ..)), fstBad_all fun x hx => h x (List.mem_cons_of_mem _ hx)]
theorem fstBad_at {q : Rq} (hq : q.chk ≠ 0) : ∀ {pre rest : List Rq} {k : Nat}, (∀ x ∈ pre, x.chk = 0) → fstBad k (pre ++ q :: rest) = (k + pre.length : Nat)
  | [], rest, k, _ => by rw [List.nil_append, fstBad, if_neg hq]; simp
  | x :: pre, rest, k, h => by
    rw [List.cons_append, fstBad, if_pos (h x (List.mem_cons_self ..)), fstBad_at hq fun y hy => h y (List.mem_cons_of_mem _ hy)]
    simp
    omega
theorem badK_all {t : List Rq} (h : ∀ q ∈ t, q.chk = 0) : badK t = -1 := fstBad_all h
theorem badK_ok {t : List Rq} : badK t < 0 ↔ ∀ q ∈ t, q.chk = 0 := by
  constructor
  · intro h q hq
    rcases Decidable.em (∀ x ∈ t, x.chk = 0) with h1 | h1
    · exact h1 q hq
    · exfalso
      have : ∃ pre x rest, t = pre ++ x :: rest ∧ x.chk ≠ 0 ∧ ∀ y ∈ pre, y.chk = 0 := by
        clear h hq
        induction t with
        | nil => exact absurd (fun x hx => by cases hx) h1
        | cons x t ih =>
          by_cases hx : x.chk = 0
          · obtain ⟨pre, y, rest, e, h2, h3⟩ := ih (fun h2 => h1 fun z hz => by
              rcases List.mem_cons.1 hz with rfl | hz
              · exact hx
              · exact h2 z hz)
            exact ⟨x :: pre, y, rest, by rw [e]; rfl, h2, fun z hz => by
              rcases List.mem_cons.1 hz with rfl | hz
              · exact hx
              · exact h3 z hz⟩
          · exact ⟨[], x, t, rfl, hx, fun y hy => by cases hy⟩
      obtain ⟨pre, x, rest, rfl, h2, h3⟩ := this
      have h4 := fstBad_at h2 (rest := rest) (k := 0) h3
      unfold badK at h
      rw [h4] at h
      omega
  · intro h
    rw [badK_all h]
    omega

theorem walkV_stop {v : Vh} {t : List Rq} {P : Pace} {pre : List (Int × Int)} {a : Sp} {s : Int × Int} {rest : List (Int × Int)} (h : srvV v t P pre a s ≠ 0) : walkV v t P pre a (s :: rest) = (srvV v t P pre a s, pre.length, a) := by rw [walkV, if_neg h]
theorem walkV_go {v : Vh} {t : List Rq} {P : Pace} {pre : List (Int × Int)} {a : Sp} {s : Int × Int} {rest : List (Int × Int)} (h : srvV v t P pre a s = 0) : walkV v t P pre a (s :: rest) = walkV v t P (pre ++ [s]) (goP P pre.length a (visV t s)) rest := by rw [walkV, if_pos h]
theorem srv_bits {v : Vh} {t : List Rq} {P : Pace} {pre : List (Int × Int)} {a : Sp} {s : Int × Int} : srvV v t P pre a s = 0 ↔ pre.length < 16 ∧ stB t pre s = true ∧ acc t (pre ++ [s]) ≤ v.cp ∧ (P pre.length (visV t s) (arV a (visV t s))).2 = true := by
  unfold srvV
  constructor
  · intro h
    split at h
    · omega
    rename_i h1
    split at h
    · omega
    rename_i h2
    split at h
    · omega
    rename_i h3
    split at h
    · omega
    rename_i h4
    exact ⟨by omega, by simpa using h2, by omega, by simpa using h4⟩
  · rintro ⟨h1, h2, h3, h4⟩
    rw [if_neg (by omega), if_neg (by simp [h2]), if_neg (by omega), if_neg (by simp [h4])]
end Go.Proofs.YthjdacbgcpldjaaDoor.Feas

/-
  Runs from stop to stop: what nothing wrong with a route says, by what is on board and when each stop is left. No program is spoken of here.
-/
namespace Go.Proofs.YthjdacbgcpldjaaDoor.Feas
open Go.Proofs.YthjdacbgcpldjaaDoor.Order Go.Proofs.YthjdacbgcpldjaaDoor.Place Go.Proofs.YthjdacbgcpldjaaDoor.Route Go.Proofs.YthjdacbgcpldjaaDoor.When Go.Proofs.YthjdacbgcpldjaaDoor.Load
set_option linter.unusedVariables false

/-- Is what is on board never too much? -/
def boardB (c : Int) (t : List Rq) : List (Int × Int) → List (Int × Int) → Bool
  | _, [] => true
  | pre, s :: l => decide (acc t (pre ++ [s]) ≤ c) && boardB c t (pre ++ [s]) l
/-- Where, and when, one is who goes from visit to visit, where each is served. -/
def runP (P : Pace) : Nat → Sp → List Vi → Option Sp
  | _, a, [] => some a
  | k, a, x :: xs => if (P k x (arV a x)).2 then runP P (k + 1) (goP P k a x) xs else none
def InR (t : List Rq) (l : List (Int × Int)) : Prop := ∀ s ∈ l, s.1 < t.length

theorem route_stB {l : List (Int × Int)} {t : List Rq} (h : isR l = true) (ht : InR t l) {p : List (Int × Int)} {s : Int × Int} {q : List (Int × Int)} (e : l = p ++ s :: q) : stB t p s = true := by
  have hs : s ∈ l := by rw [e]; simp
  obtain ⟨h0, h1⟩ := isR_iff.1 h s hs
  rw [stB_iff]
  refine ⟨⟨h0, ht s hs⟩, ?_⟩
  rcases split3 e rfl h1 with ⟨h2, h3, _⟩ | ⟨h2, h3, _⟩
  · have h4 : s.2 = 0 := by rw [h2]
    exact ⟨.inl h4, by unfold nR; rw [h3, h4]; rfl⟩
  · have h4 : s.2 = 1 := by rw [h2]
    exact ⟨.inr h4, by unfold nR; rw [h3, h4]; rfl⟩

theorem walk_iff {v : Vh} {t : List Rq} {P : Pace} : ∀ {l pre : List (Int × Int)} {a : Sp}, (∀ p s q, l = p ++ s :: q → stB t (pre ++ p) s = true) → (pre ++ l).length ≤ 16 →
    ((walkV v t P pre a l).1 = 0 ↔ boardB v.cp t pre l = true ∧ ∃ b, runP P pre.length a (visL t l) = some b) ∧ ∀ b, boardB v.cp t pre l = true → runP P pre.length a (visL t l) = some b → walkV v t P pre a l = (0, (pre ++ l).length, b)
  | [], pre, a, _, _ => by
    refine ⟨by simp [walkV, boardB, visL, runP], fun b _ hr => ?_⟩
    simp [visL, runP] at hr
    simp [walkV, hr]
  | s :: l, pre, a, hs, hl => by
    have h1 := hs [] s l rfl
    rw [List.append_nil] at h1
    have hl' : ((pre ++ [s]) ++ l).length ≤ 16 := by simpa using hl
    have hk : pre.length < 16 := by simp at hl; omega
    have ih := walk_iff (v := v) (t := t) (P := P) (l := l) (pre := pre ++ [s]) (a := goP P pre.length a (visV t s)) (fun p x q e => by
      have := hs (s :: p) x q (by rw [e]; rfl)
      simpa using this) hl'
    have ev : visL t (s :: l) = visV t s :: visL t l := rfl
    have en : (pre ++ [s]).length = pre.length + 1 := by simp
    rw [en] at ih
    by_cases hb : acc t (pre ++ [s]) ≤ v.cp
    · cases hp : (P pre.length (visV t s) (arV a (visV t s))).2
      · have h2 : srvV v t P pre a s ≠ 0 := fun e => by have := (srv_bits.1 e).2.2.2; rw [hp] at this; cases this
        rw [walkV_stop h2, ev, runP, hp]
        exact ⟨⟨fun e => absurd e h2, fun e => by obtain ⟨_, b, e⟩ := e; cases e⟩, fun b _ e => by cases e⟩
      · have h2 : srvV v t P pre a s = 0 := srv_bits.2 ⟨hk, h1, hb, hp⟩
        rw [walkV_go h2, ev, runP, hp, if_pos rfl, boardB, decide_eq_true hb, Bool.true_and]
        refine ⟨ih.1, fun b x y => ?_⟩
        rw [ih.2 b x y]
        simp
    · have h2 : srvV v t P pre a s ≠ 0 := fun e => hb (srv_bits.1 e).2.2.1
      rw [walkV_stop h2, boardB, decide_eq_false hb]
      exact ⟨⟨fun e => absurd e h2, fun e => by obtain ⟨e, _⟩ := e; cases e⟩, fun b e => by cases e⟩

/-- What nothing wrong says of a route whose requests there are. -/
theorem look_iff {v : Vh} {l : List (Int × Int)} {t : List Rq} {P : Pace} (hv : v.chk = 0) (ht : ∀ q ∈ t, q.chk = 0) (hl : isR l = true) (h16 : l.length ≤ 16) (hr : InR t l) :
    (lookV v l t P).1 = 0 ↔ boardB v.cp t [] l = true ∧ ∃ b, runP P 0 (sp0 v) (visL t l) = some b ∧ arV b (homeV v) ≤ v.en := by
  obtain ⟨h1, h2⟩ := walk_iff (v := v) (t := t) (P := P) (l := l) (pre := []) (a := sp0 v) (fun p s q e => route_stB hl hr e) (by simpa using h16)
  have hb : badK t < 0 := badK_ok.2 ht
  have ha : acc t l = 0 := acc_last t hl
  unfold lookV
  rw [if_neg (by omega), if_neg (by omega)]
  simp only [List.length_nil] at h1 h2
  constructor
  · intro h
    dsimp only at h
    by_cases h3 : (walkV v t P [] (sp0 v) l).1 = 0
    case neg => rw [if_pos h3] at h; exact absurd h h3
    · rw [if_neg (by omega)] at h
      obtain ⟨hb1, b, hr1⟩ := h1.1 h3
      rw [h2 b hb1 hr1] at h
      dsimp only [homeE] at h
      rw [ha] at h
      refine ⟨hb1, b, hr1, ?_⟩
      rw [if_neg (by omega)] at h
      split at h <;> omega
  · rintro ⟨hb1, b, hr1, he⟩
    rw [h2 b hb1 hr1]
    dsimp only [homeE]
    rw [if_neg (by omega), ha, if_neg (by omega), if_neg (by omega)]

theorem fault_zero {v : Vh} {l : List (Int × Int)} {t : List Rq} : (faultV v l t).1 = 0 ↔ (lookV v l t earlyP).1 = 0 := by
  unfold faultV
  split
  · rename_i h; exact ⟨fun _ => h, fun _ => rfl⟩
  · rfl
theorem right_iff {v : Vh} {l : List (Int × Int)} {t : List Rq} {ts : List Tm} : rightB v l t ts = true ↔ ts.length = l.length ∧ (lookV v l t (keptP ts)).1 = 0 := by
  unfold rightB
  rw [Bool.and_eq_true, decide_eq_true_eq, decide_eq_true_eq]

/-- The two paces, as rows. -/
def keptL : Sp → List Vi → List Tm → Option Sp
  | a, [], _ => some a
  | a, x :: xs, y :: ys => if keptB x (arV a x) y then keptL ⟨y.lv, x.px, x.py⟩ xs ys else none
  | _, _ :: _, [] => none
def earlyL : Sp → List Vi → Option Sp
  | a, [] => some a
  | a, x :: xs => if arV a x ≤ x.wl then earlyL ⟨max (arV a x) x.we + x.sv, x.px, x.py⟩ xs else none
theorem run_kept (ts : List Tm) : ∀ (xs : List Vi) (k : Nat) (a : Sp), ts.length = k + xs.length → runP (keptP ts) k a xs = keptL a xs (ts.drop k)
  | [], k, a, _ => by simp [runP, keptL]
  | x :: xs, k, a, h => by
    have hk : k < ts.length := by simp at h; omega
    have e : ts.drop k = ts[k] :: ts.drop (k + 1) := List.drop_eq_getElem_cons hk
    have et : tmAt ts k = ts[k] := by unfold tmAt; rw [List.getElem?_eq_getElem hk]; rfl
    rw [runP, e, keptL]
    simp only [keptP, goP, et]
    rw [← run_kept ts xs (k + 1) _ (by simp at h; omega)]
theorem run_early : ∀ (xs : List Vi) (k : Nat) (a : Sp), runP earlyP k a xs = earlyL a xs
  | [], _, _ => rfl
  | x :: xs, k, a => by
    rw [runP, earlyL]
    simp only [earlyP, goP, decide_eq_true_eq]
    rw [run_early xs (k + 1)]

/-- The row of one who goes as early as can be. -/
def earlyT : Sp → List Vi → List Tm
  | _, [] => []
  | a, x :: xs => ⟨arV a x, max (arV a x) x.we, max (arV a x) x.we + x.sv⟩ :: earlyT ⟨max (arV a x) x.we + x.sv, x.px, x.py⟩ xs
def LeT (y z : Tm) : Prop := y.ar ≤ z.ar ∧ y.be ≤ z.be ∧ y.lv ≤ z.lv
inductive LeL : List Tm → List Tm → Prop
  | nil : LeL [] []
  | cons {y z ys zs} : LeT y z → LeL ys zs → LeL (y :: ys) (z :: zs)
theorem LeL.get : ∀ {a b : List Tm}, LeL a b → a.length = b.length ∧ ∀ (i : Nat) (y z : Tm), a[i]? = some y → b[i]? = some z → LeT y z
  | _, _, .nil => ⟨rfl, fun i y z h => by cases h⟩
  | _, _, .cons h r => by
    obtain ⟨h1, h2⟩ := r.get
    refine ⟨by simp [h1], fun i y z hy hz => ?_⟩
    cases i with
    | zero =>
      simp at hy hz
      subst hy hz
      exact h
    | succ i => exact h2 i y z (by simpa using hy) (by simpa using hz)

theorem keptB_iff {x : Vi} {n : Int} {y : Tm} : keptB x n y = true ↔ n ≤ y.ar ∧ y.ar ≤ y.be ∧ (x.we ≤ y.be ∧ y.be ≤ x.wl) ∧ y.lv = y.be + x.sv := by
  simp only [keptB, Bool.and_eq_true, decide_eq_true_eq, and_assoc]
theorem arV_le {a a' : Sp} {x : Vi} (h : a'.now ≤ a.now) (hx : a'.px = a.px) (hy : a'.py = a.py) : arV a' x ≤ arV a x := by
  unfold arV
  rw [hx, hy]
  omega
/-- Who goes as early as can be, from no later, is served where any times serve, and no later. -/
theorem early_kept : ∀ {xs : List Vi} {ys : List Tm} {a a' b : Sp}, keptL a xs ys = some b → ys.length = xs.length → a'.now ≤ a.now → a'.px = a.px → a'.py = a.py →
    ∃ b', earlyL a' xs = some b' ∧ b'.now ≤ b.now ∧ b'.px = b.px ∧ b'.py = b.py ∧ LeL (earlyT a' xs) ys
  | [], [], a, a', b, h, _, h1, h2, h3 => by
    simp [keptL] at h
    subst h
    exact ⟨a', rfl, h1, h2, h3, .nil⟩
  | [], _ :: _, _, _, _, _, hl, _, _, _ => by simp at hl
  | _ :: _, [], _, _, _, _, hl, _, _, _ => by simp at hl
  | x :: xs, y :: ys, a, a', b, h, hl, h1, h2, h3 => by
    rw [keptL] at h
    split at h
    · rename_i hk
      obtain ⟨k1, k2, ⟨k3, k4⟩, k5⟩ := keptB_iff.1 hk
      have ha := arV_le (x := x) h1 h2 h3
      obtain ⟨b', e1, e2, e3, e4, e5⟩ := early_kept (a' := ⟨max (arV a' x) x.we + x.sv, x.px, x.py⟩) h (by simpa using hl) (show max (arV a' x) x.we + x.sv ≤ y.lv by omega) rfl rfl
      refine ⟨b', ?_, e2, e3, e4, ?_⟩
      · rw [earlyL, if_pos (by omega), e1]
      · rw [earlyT]
        exact .cons ⟨by show arV a' x ≤ y.ar; omega, by show max (arV a' x) x.we ≤ y.be; omega, by show max (arV a' x) x.we + x.sv ≤ y.lv; omega⟩ e5
    · cases h
/-- Its own times serve it. -/
theorem kept_early : ∀ {xs : List Vi} {a b : Sp}, (∀ x ∈ xs, x.we ≤ x.wl) → earlyL a xs = some b → keptL a xs (earlyT a xs) = some b
  | [], a, b, _, h => h
  | x :: xs, a, b, hx, h => by
    rw [earlyL] at h
    split at h
    · rename_i hk
      have := hx x (List.mem_cons_self ..)
      have hkb : keptB x (arV a x) ⟨arV a x, max (arV a x) x.we, max (arV a x) x.we + x.sv⟩ = true := keptB_iff.2 ⟨Int.le_refl _, show arV a x ≤ max (arV a x) x.we by omega, ⟨show x.we ≤ max (arV a x) x.we by omega, show max (arV a x) x.we ≤ x.wl by omega⟩, rfl⟩
      rw [earlyT, keptL, if_pos hkb]
      exact kept_early (fun z hz => hx z (List.mem_cons_of_mem _ hz)) h
    · cases h
end Go.Proofs.YthjdacbgcpldjaaDoor.Feas

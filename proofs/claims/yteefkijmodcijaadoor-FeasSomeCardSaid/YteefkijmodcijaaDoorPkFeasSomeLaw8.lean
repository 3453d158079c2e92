import Derived.Test.YteefkijmodcijaaDoorPkFeasSomeLaw7

/-
  What package feas answers, in plain numbers and lists: a walk from stop to stop by a pace, up to the first one at which something is wrong. No program is spoken of here.
-/
namespace Go.Proofs.YteefkijmodcijaaDoor.Feas
open Go.Proofs.YteefkijmodcijaaDoor.Order Go.Proofs.YteefkijmodcijaaDoor.Place Go.Proofs.YteefkijmodcijaaDoor.Route Go.Proofs.YteefkijmodcijaaDoor.When Go.Proofs.YteefkijmodcijaaDoor.Load
set_option linter.unusedVariables false

/-- How many stops of a request there are: what became of it. -/
def nR (r : Int) (l : List (Int × Int)) : Int := (ofR r l).length
theorem nR_snoc (r : Int) (l : List (Int × Int)) (s : Int × Int) : nR r (l ++ [s]) = nR r l + (if s.1 = r then 1 else 0) := by
  unfold nR
  rw [ofR_append]
  by_cases h : s.1 = r
  · rw [ofR_cons_same h, if_pos h]; simp [ofR]
  · rw [ofR_cons_other h, if_neg h]; simp [ofR]
theorem nR_nonneg (r : Int) (l : List (Int × Int)) : 0 ≤ nR r l := by unfold nR; omega

/-- May a stop stand behind these? -/
def stB (t : List Rq) (pre : List (Int × Int)) (s : Int × Int) : Bool := inT t s.1 && (decide (s.2 = 0) || decide (s.2 = 1)) && decide (nR s.1 pre = s.2)
theorem stB_iff {t : List Rq} {pre : List (Int × Int)} {s : Int × Int} : stB t pre s = true ↔ (0 ≤ s.1 ∧ s.1 < t.length) ∧ (s.2 = 0 ∨ s.2 = 1) ∧ nR s.1 pre = s.2 := by
  simp only [stB, inT, Bool.and_eq_true, Bool.or_eq_true, decide_eq_true_eq, and_assoc]

/-- A pace: when the stop k is left by one who can be there at a time; and is it served. -/
abbrev Pace := Nat → Vi → Int → Int × Bool
def earlyP : Pace := fun _ x n => (max n x.we + x.sv, decide (n ≤ x.wl))
def noTm : Tm := ⟨0, 0, 0⟩
def tmAt (ts : List Tm) (k : Nat) : Tm := (ts[k]?).getD noTm
def keptB (x : Vi) (n : Int) (y : Tm) : Bool := decide (n ≤ y.ar) && decide (y.ar ≤ y.be) && (decide (x.we ≤ y.be) && decide (y.be ≤ x.wl)) && decide (y.lv = y.be + x.sv)
def keptP (ts : List Tm) : Pace := fun k x n => ((tmAt ts k).lv, keptB x n (tmAt ts k))

/-- What is wrong with a stop behind these; where one is behind it. -/
def goP (P : Pace) (k : Nat) (a : Sp) (x : Vi) : Sp := ⟨(P k x (arV a x)).1, x.px, x.py⟩
def srvV (v : Vh) (t : List Rq) (P : Pace) (pre : List (Int × Int)) (a : Sp) (s : Int × Int) : Int :=
  if 16 ≤ pre.length then 11 else if stB t pre s = false then 8 else if v.cp < acc t (pre ++ [s]) then 10 else if (P pre.length (visV t s) (arV a (visV t s))).2 = false then 9 else 0
/-- From stop to stop: what is wrong first, how many are ahead of it, where one is then. -/
def walkV (v : Vh) (t : List Rq) (P : Pace) : List (Int × Int) → Sp → List (Int × Int) → Int × Nat × Sp
  | pre, a, [] => (0, pre.length, a)
  | pre, a, s :: rest => if srvV v t P pre a s = 0 then walkV v t P (pre ++ [s]) (goP P pre.length a (visV t s)) rest else (srvV v t P pre a s, pre.length, a)
def homeE (v : Vh) (t : List Rq) (l : List (Int × Int)) (a : Sp) : Int := if 0 < acc t l then 8 else if v.en < arV a (homeV v) then 9 else 0
/-- The first request that may not be. -/
def fstBad : Nat → List Rq → Int
  | _, [] => -1
  | k, q :: t => if q.chk = 0 then fstBad (k + 1) t else k
def badK (t : List Rq) : Int := fstBad 0 t
def lookV (v : Vh) (l : List (Int × Int)) (t : List Rq) (P : Pace) : Int × Int × Int :=
  if v.chk ≠ 0 then (2, 0, 0) else if 0 ≤ badK t then (2, 1, badK t) else
    let y := walkV v t P [] (sp0 v) l
    if y.1 ≠ 0 then (y.1, 2, (y.2.1 : Int)) else (homeE v t l y.2.2, 3, (l.length : Int))
/-- What Check tells. -/
def faultV (v : Vh) (l : List (Int × Int)) (t : List Rq) : Int × Int × Int := if (lookV v l t earlyP).1 = 0 then (0, 0, 0) else lookV v l t earlyP
def rightB (v : Vh) (l : List (Int × Int)) (t : List Rq) (ts : List Tm) : Bool := decide (ts.length = l.length) && decide ((lookV v l t (keptP ts)).1 = 0)

theorem fstBad_all : ∀ {t : List Rq} {k : Nat}, (∀ q ∈ t, q.chk = 0) → fstBad k t = -1
  | [], k, _ => rfl
  | q :: t, k, h => by
    rw [fstBad, if_pos (h q (List.mem_cons_self ..)), fstBad_all fun x hx => h x (List.mem_cons_of_mem _ hx)]
theorem fstBad_at {q : Rq} (hq : q.chk ≠ 0) : ∀ {pre rest : List Rq} {k : Nat}, (∀ x ∈ pre, x.chk = 0) → fstBad k (pre ++ q :: rest) = (k + pre.length : Nat)
  | [], rest, k, _ => by rw [List.nil_append, fstBad, if_neg hq]; simp
  | x :: pre, rest, k, h => by
    rw [List.cons_append, fstBad, if_pos (h x (List.mem_cons_self ..)), fstBad_at hq fun y hy => h y (List.mem_cons_of_mem _ hy)]
    simp
    omega
theorem badK_all {t : List Rq} (h : ∀ q ∈ t, q.chk = 0) : badK t = -1 := fstBad_all h
theorem badK_ok {t : List Rq} : badK t < 0 ↔ ∀ q ∈ t, q.chk = 0 := by
  constructor
  · intro h q hq
    rcases Decidable.em (∀ x ∈ t, x.chk = 0) with h1 | h1
    · exact h1 q hq
    · exfalso
      have : ∃ pre x rest, t = pre ++ x :: rest ∧ x.chk ≠ 0 ∧ ∀ y ∈ pre, y.chk = 0 := by
        clear h hq
        induction t with
        | nil => exact absurd (fun x hx => by cases hx) h1
        | cons x t ih =>
          by_cases hx : x.chk = 0
          · obtain ⟨pre, y, rest, e, h2, h3⟩ := ih (fun h2 => h1 fun z hz => by
              rcases List.mem_cons.1 hz with rfl | hz
              · exact hx
              · exact h2 z hz)
            exact ⟨x :: pre, y, rest, by rw [e]; rfl, h2, fun z hz => by
              rcases List.mem_cons.1 hz with rfl | hz
              · exact hx
              · exact h3 z hz⟩
          · exact ⟨[], x, t, rfl, hx, fun y hy => by cases hy⟩
      obtain ⟨pre, x, rest, rfl, h2, h3⟩ := this
      have h4 := fstBad_at h2 (rest := rest) (k := 0) h3
      unfold badK at h
      rw [h4] at h
      omega
  · intro h
    rw [badK_all h]
    omega

theorem walkV_stop {v : Vh} {t : List Rq} {P : Pace} {pre : List (Int × Int)} {a : Sp} {s : Int × Int} {rest : List (Int × Int)} (h : srvV v t P pre a s ≠ 0) : walkV v t P pre a (s :: rest) = (srvV v t P pre a s, pre.length, a) := by rw [walkV, if_neg h]
theorem walkV_go {v : Vh} {t : List Rq} {P : Pace} {pre : List (Int × Int)} {a : Sp} {s : Int × Int} {rest : List (Int × Int)} (h : srvV v t P pre a s = 0) : walkV v t P pre a (s :: rest) = walkV v t P (pre ++ [s]) (goP P pre.length a (visV t s)) rest := by rw [walkV, if_pos h]
theorem srv_bits {v : Vh} {t : List Rq} {P : Pace} {pre : List (Int × Int)} {a : Sp} {s : Int × Int} : srvV v t P pre a s = 0 ↔ pre.length < 16 ∧ stB t pre s = true ∧ acc t (pre ++ [s]) ≤ v.cp ∧ (P pre.length (visV t s) (arV a (visV t s))).2 = true := by
  unfold srvV
  constructor
  · intro h
    split at h
    · omega
    rename_i h1
    split at h
    · omega
    rename_i h2
    split at h
    · omega
    rename_i h3
    split at h
    · omega
    rename_i h4
    exact ⟨by omega, by simpa using h2, by omega, by simpa using h4⟩
  · rintro ⟨h1, h2, h3, h4⟩
    rw [if_neg (by omega), if_neg (by simp [h2]), if_neg (by omega), if_neg (by simp [h4])]
end Go.Proofs.YteefkijmodcijaaDoor.Feas

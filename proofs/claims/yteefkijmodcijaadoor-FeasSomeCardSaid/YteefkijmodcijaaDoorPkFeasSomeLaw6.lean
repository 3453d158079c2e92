import Derived.Test.YteefkijmodcijaaDoorPkFeasSomeLaw2
import Derived.Test.YteefkijmodcijaaDoorPkFeasSomeLaw4
import Derived.Test.YteefkijmodcijaaDoorPkFeasSomeLaw5

/-
  What package sched answers, in plain numbers and lists. No program is spoken of here.
-/
namespace Go.Proofs.YteefkijmodcijaaDoor.When
open Go.Proofs.YteefkijmodcijaaDoor.Order Go.Proofs.YteefkijmodcijaaDoor.Place Go.Proofs.YteefkijmodcijaaDoor.Window Go.Proofs.YteefkijmodcijaaDoor.Up
set_option linter.unusedVariables false

/-- A request, a vehicle, a visit, the times of one, and where a vehicle is. -/
structure Rq where (fx fy tx ty pe pl de dl ld sv : Int)
structure Vh where (hx hy cp st en : Int)
structure Vi where (px py we wl sv : Int)
structure Tm where (ar be lv : Int)
deriving DecidableEq
structure Sp where (now px py : Int)

def Rq.chk (q : Rq) : Int := Order.chk q.fx q.fy q.tx q.ty q.pe q.pl q.de q.dl q.ld q.sv
def Vh.chk (h : Vh) : Int := Order.veh h.hx h.hy h.cp h.st h.en
def noVi : Vi := ⟨0, 0, 0, 0, 0⟩
def inT (t : List Rq) (r : Int) : Bool := decide (0 ≤ r) && decide (r < t.length)

/-- A stop with what it is. -/
def visO (t : List Rq) (s : Int × Int) : Option Vi :=
  if inT t s.1 then
    match t[s.1.toNat]? with
    | some q => if s.2 = 0 then some ⟨q.fx, q.fy, q.pe, q.pl, q.sv⟩ else if s.2 = 1 then some ⟨q.tx, q.ty, q.de, q.dl, q.sv⟩ else none
    | none => none
  else none
def visV (t : List Rq) (s : Int × Int) : Vi := (visO t s).getD noVi
def visB (t : List Rq) (s : Int × Int) : Bool := (visO t s).isSome

theorem visO_out {t : List Rq} {s : Int × Int} (h : inT t s.1 = false) : visO t s = none := by simp [visO, h]
theorem visO_pick {t : List Rq} {s : Int × Int} {q : Rq} (h : inT t s.1 = true) (hq : t[s.1.toNat]? = some q) (h0 : s.2 = 0) : visO t s = some ⟨q.fx, q.fy, q.pe, q.pl, q.sv⟩ := by simp [visO, h, hq, h0]
theorem visO_drop {t : List Rq} {s : Int × Int} {q : Rq} (h : inT t s.1 = true) (hq : t[s.1.toNat]? = some q) (h0 : s.2 = 1) : visO t s = some ⟨q.tx, q.ty, q.de, q.dl, q.sv⟩ := by simp [visO, h, hq, h0]
theorem inT_get {t : List Rq} {r : Int} (h : inT t r = true) : ∃ q, t[r.toNat]? = some q ∧ 0 ≤ r ∧ r < t.length := by
  simp only [inT, Bool.and_eq_true, decide_eq_true_eq] at h
  exact ⟨t[r.toNat]'(by omega), List.getElem?_eq_getElem (by omega), h.1, h.2⟩
theorem visO_odd {t : List Rq} {s : Int × Int} (h0 : s.2 ≠ 0) (h1 : s.2 ≠ 1) : visO t s = none := by
  cases hi : inT t s.1
  · exact visO_out hi
  · obtain ⟨q, hq, _⟩ := inT_get hi
    unfold visO
    rw [if_pos hi, hq]
    simp [h0, h1]
theorem visO_some {t : List Rq} {s : Int × Int} {x : Vi} (h : visO t s = some x) : ∃ q, t[s.1.toNat]? = some q ∧ 0 ≤ s.1 ∧ s.1 < t.length ∧ x.sv = q.sv ∧ (s.2 = 0 ∧ x = ⟨q.fx, q.fy, q.pe, q.pl, q.sv⟩ ∨ s.2 = 1 ∧ x = ⟨q.tx, q.ty, q.de, q.dl, q.sv⟩) := by
  cases hi : inT t s.1
  · rw [visO_out hi] at h; cases h
  · obtain ⟨q, hq, h1, h2⟩ := inT_get hi
    by_cases h0 : s.2 = 0
    · rw [visO_pick hi hq h0] at h; cases h
      exact ⟨q, hq, h1, h2, rfl, .inl ⟨h0, rfl⟩⟩
    · by_cases h3 : s.2 = 1
      · rw [visO_drop hi hq h3] at h; cases h
        exact ⟨q, hq, h1, h2, rfl, .inr ⟨h3, rfl⟩⟩
      · rw [visO_odd h0 h3] at h; cases h

/-- What is wrong. -/
def wrongV (v : Vh) (l : List (Int × Int)) (t : List Rq) : Int :=
  if v.chk ≠ 0 then 2 else if t.any (fun q => decide (q.chk ≠ 0)) then 2 else if Route.checkV l ≠ 0 then 8 else if l.any (fun s => !visB t s) then 8 else 0

/-- One visit, from where the vehicle is. -/
def arV (a : Sp) (x : Vi) : Int := a.now + distV (a.px, a.py) (x.px, x.py)
def inB (a : Sp) (x : Vi) : Bool := waitB x.we x.wl (arV a x)
def beV (a : Sp) (x : Vi) : Int := waitV x.we x.wl (arV a x)
def tmV (a : Sp) (x : Vi) : Tm := ⟨arV a x, beV a x, beV a x + x.sv⟩
def goV (a : Sp) (x : Vi) : Sp := ⟨beV a x + x.sv, x.px, x.py⟩
def good (y : Sp × Vi) : Bool := inB y.1 y.2
def stepsL : Sp → List Vi → List (Sp × Vi)
  | _, [] => []
  | a, x :: xs => (a, x) :: stepsL (goV a x) xs
def endA (a : Sp) (xs : List Vi) : Sp := xs.foldl goV a
def tmsL (ys : List (Sp × Vi)) : List Tm := ys.map fun y => tmV y.1 y.2
def allB (a : Sp) (xs : List Vi) : Bool := (stepsL a xs).all good

theorem stepsL_vis : ∀ (a : Sp) (xs : List Vi), (stepsL a xs).map (·.2) = xs
  | _, [] => rfl
  | a, x :: xs => by simp [stepsL, stepsL_vis]
theorem stepsL_length (a : Sp) (xs : List Vi) : (stepsL a xs).length = xs.length := by
  have := congrArg List.length (stepsL_vis a xs)
  simpa using this
theorem stepsL_append : ∀ (a : Sp) (xs ys : List Vi), stepsL a (xs ++ ys) = stepsL a xs ++ stepsL (endA a xs) ys
  | _, [], _ => rfl
  | a, x :: xs, ys => by simp [stepsL, endA, stepsL_append (goV a x) xs ys]
theorem endA_snoc (a : Sp) (xs : List Vi) (x : Vi) : endA a (xs ++ [x]) = goV (endA a xs) x := by simp [endA]
theorem tmsL_snoc (ys : List (Sp × Vi)) (y : Sp × Vi) : tmsL (ys ++ [y]) = tmsL ys ++ [tmV y.1 y.2] := by simp [tmsL]
theorem stepsL_get {a : Sp} : ∀ {xs : List Vi} {pre : List (Sp × Vi)} {y : Sp × Vi} {rest : List (Sp × Vi)}, stepsL a xs = pre ++ y :: rest → y.1 = endA a (pre.map (·.2)) := by
  intro xs pre y rest h
  have hv := stepsL_vis a xs
  rw [h, List.map_append, List.map_cons] at hv
  have h2 := stepsL_append a (pre.map (·.2)) (y.2 :: rest.map (·.2))
  rw [hv, h] at h2
  have hl : pre.length = (stepsL a (pre.map (·.2))).length := by rw [stepsL_length]; simp
  have h3 := (List.append_inj h2 hl).2
  rw [stepsL] at h3
  injection h3 with h4 _
  rw [h4]

def sp0 (v : Vh) : Sp := ⟨v.st, v.hx, v.hy⟩
def homeV (v : Vh) : Vi := ⟨v.hx, v.hy, 0, v.en, 0⟩
def visL (t : List Rq) (l : List (Int × Int)) : List Vi := l.map (visV t)
/-- The times of all stops, where nothing is wrong. -/
def rowT (v : Vh) (l : List (Int × Int)) (t : List Rq) : List Tm := tmsL (stepsL (sp0 v) (visL t l))
def endT (v : Vh) (l : List (Int × Int)) (t : List Rq) : Int := arV (endA (sp0 v) (visL t l)) (homeV v)
def okT (v : Vh) (l : List (Int × Int)) (t : List Rq) : Bool := allB (sp0 v) (visL t l) && decide (endT v l t ≤ v.en)
def errT (v : Vh) (l : List (Int × Int)) (t : List Rq) : Int := if wrongV v l t ≠ 0 then wrongV v l t else if okT v l t then 0 else 9
/-- What Times answers. -/
def timesL (v : Vh) (l : List (Int × Int)) (t : List Rq) : List Tm := if errT v l t = 0 then rowT v l t else []
def homeT (v : Vh) (l : List (Int × Int)) (t : List Rq) : Int := if errT v l t = 0 then endT v l t else 0
/-- What Spent answers. -/
def waitS (ts : List Tm) : Int := ts.foldl (fun n x => n + (x.be - x.ar)) 0
def servS (ts : List Tm) : Int := ts.foldl (fun n x => n + (x.lv - x.be)) 0
def leftS (n : Int) (ts : List Tm) : Int := ts.foldl (fun _ x => x.lv) n
def wayS (n : Int) : List Tm → Int
  | [] => 0
  | x :: ts => (x.ar - n) + wayS x.lv ts
def wayT (v : Vh) (l : List (Int × Int)) (t : List Rq) : Int := if errT v l t = 0 then endT v l t - v.st - waitS (rowT v l t) - servS (rowT v l t) else 0
def waitT (v : Vh) (l : List (Int × Int)) (t : List Rq) : Int := waitS (timesL v l t)
def servT (v : Vh) (l : List (Int × Int)) (t : List Rq) : Int := servS (timesL v l t)

theorem foldl_add (f : Tm → Int) (ts : List Tm) (n : Int) : ts.foldl (fun n x => n + f x) n = n + ts.foldl (fun n x => n + f x) 0 := by
  induction ts generalizing n with
  | nil => simp
  | cons x ts ih => rw [List.foldl_cons, List.foldl_cons, ih, ih (0 + f x)]; omega
theorem waitS_snoc (ts : List Tm) (x : Tm) : waitS (ts ++ [x]) = waitS ts + (x.be - x.ar) := by simp [waitS]
theorem servS_snoc (ts : List Tm) (x : Tm) : servS (ts ++ [x]) = servS ts + (x.lv - x.be) := by simp [servS]
theorem leftS_snoc (n : Int) (ts : List Tm) (x : Tm) : leftS n (ts ++ [x]) = x.lv := by simp [leftS]
theorem waitS_cons (ts : List Tm) (x : Tm) : waitS (x :: ts) = (x.be - x.ar) + waitS ts := by
  unfold waitS
  rw [List.foldl_cons, foldl_add]
  omega
theorem servS_cons (ts : List Tm) (x : Tm) : servS (x :: ts) = (x.lv - x.be) + servS ts := by
  unfold servS
  rw [List.foldl_cons, foldl_add]
  omega
theorem wayS_snoc : ∀ (ts : List Tm) (n : Int) (x : Tm), wayS n (ts ++ [x]) = wayS n ts + (x.ar - leftS n ts)
  | [], n, x => by simp [wayS, leftS]
  | y :: ts, n, x => by
    rw [List.cons_append, wayS, wayS_snoc ts, wayS]
    simp [leftS]
    omega
theorem way_all : ∀ (ts : List Tm) (n : Int), wayS n ts + waitS ts + servS ts = leftS n ts - n
  | [], n => by simp [wayS, waitS, servS, leftS]
  | x :: ts, n => by
    have := way_all ts x.lv
    rw [wayS, waitS_cons, servS_cons]
    have e : leftS n (x :: ts) = leftS x.lv ts := rfl
    omega
theorem left_end : ∀ (xs : List Vi) (a : Sp), leftS a.now (tmsL (stepsL a xs)) = (endA a xs).now
  | [], a => rfl
  | x :: xs, a => by
    have := left_end xs (goV a x)
    exact this
theorem wayT_eq (v : Vh) (l : List (Int × Int)) (t : List Rq) (h : errT v l t = 0) : wayT v l t = wayS v.st (rowT v l t) + (endT v l t - leftS v.st (rowT v l t)) := by
  have := way_all (rowT v l t) v.st
  unfold wayT
  rw [if_pos h]
  omega

theorem wrong_bits (v : Vh) (l : List (Int × Int)) (t : List Rq) : wrongV v l t = 0 → v.chk = 0 ∧ (∀ q ∈ t, q.chk = 0) ∧ Route.checkV l = 0 ∧ ∀ s ∈ l, ∃ x, visO t s = some x := by
  unfold wrongV
  intro h
  split at h
  · omega
  rename_i h1
  split at h
  · omega
  rename_i h2
  split at h
  · omega
  rename_i h3
  split at h
  · omega
  rename_i h4
  refine ⟨by omega, fun q hq => ?_, by omega, fun s hs => ?_⟩
  · simp at h2
    exact h2 q hq
  · simp [visB] at h4
    have := h4 s.1 s.2 hs
    exact Option.ne_none_iff_exists'.1 this

end Go.Proofs.YteefkijmodcijaaDoor.When

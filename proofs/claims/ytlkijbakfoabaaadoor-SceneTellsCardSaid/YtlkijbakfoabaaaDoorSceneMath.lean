/-
  What package scene answers, in plain numbers and lists. No program is spoken of here.
-/
import Derived.Test.YtlkijbakfoabaaaDoorOrderMath
import Derived.Test.YtlkijbakfoabaaaDoorUp
namespace Go.Proofs.YtlkijbakfoabaaaDoor.Scene
open Go.Proofs.YtlkijbakfoabaaaDoor.Order Go.Proofs.YtlkijbakfoabaaaDoor.Up
set_option linter.unusedVariables false

/-- A request, a vehicle, a carrier, a lot, a scene. -/
structure Rq where (fx fy tx ty pe pl de dl ld sv : Int)
structure Vh where (hx hy cp st en : Int)
structure Cr where (fleet : List Vh) (own : List Int)
structure Lt where (req res : Int)
structure Sc where (reqs : List Rq) (cars : List Cr) (lots : List Lt) (cm rv sch : Int) (draws : Nat)

def Rq.chk (q : Rq) : Int := Order.chk q.fx q.fy q.tx q.ty q.pe q.pl q.de q.dl q.ld q.sv
def Vh.chk (h : Vh) : Int := Order.veh h.hx h.hy h.cp h.st h.en

/-- An error's number, unless something holds. -/
def unV (h : Bool) (c : Int) : Int := if h then 0 else c

/-- Is a request in a row of those that were claimed? Who claimed it first? -/
def inP (r : Int) (ps : List (Int × Int)) : Bool := ps.any fun p => p.1 == r
def whoP (ps : List (Int × Int)) (r : Int) : Option Int := (ps.find? fun p => p.1 == r).map (·.2)
/-- What a map of the first ones holds. -/
def mapP (N : Int) (ps : List (Int × Int)) (r : Int) : Option Int := if btwB r 0 (N - 1) then whoP ps r else none
/-- What is wrong with a claim. -/
def clmC (N : Int) (ps : List (Int × Int)) (r : Int) : Int := if btwB r 0 (N - 1) then (if inP r ps then 13 else 0) else 12

theorem whoP_some (ps : List (Int × Int)) (r : Int) : (whoP ps r).isSome = inP r ps := by
  unfold whoP inP
  induction ps with
  | nil => rfl
  | cons p ps ih =>
    cases h : p.1 == r
    · simpa [List.find?, h] using ih
    · simp [List.find?, h]
theorem inP_snoc (r : Int) (ps : List (Int × Int)) (p : Int × Int) : inP r (ps ++ [p]) = (inP r ps || p.1 == r) := by simp [inP]
theorem inP_append (r : Int) (ps qs : List (Int × Int)) : inP r (ps ++ qs) = (inP r ps || inP r qs) := by simp [inP]
theorem whoP_snoc (ps : List (Int × Int)) (q c r : Int) : whoP (ps ++ [(q, c)]) r = if inP r ps then whoP ps r else if q = r then some c else none := by
  unfold whoP
  rw [List.find?_append]
  cases h : ps.find? (fun p => p.1 == r) with
  | some p =>
    have h1 : inP r ps = true := by rw [← whoP_some]; unfold whoP; rw [h]; rfl
    simp [h1]
  | none =>
    have h1 : inP r ps = false := by rw [← whoP_some]; unfold whoP; rw [h]; rfl
    simp only [h1, Bool.false_eq_true, if_false, Option.none_or]
    by_cases hq : q = r
    · simp [hq]
    · simp [List.find?, hq, beq_eq_false_iff_ne.2 hq]

theorem whoP_ne {ps : List (Int × Int)} {q c r : Int} (h : q ≠ r) : whoP (ps ++ [(q, c)]) r = whoP ps r := by
  unfold whoP
  rw [List.find?_append]
  cases hf : ps.find? (fun p => p.1 == r) <;> simp [List.find?, beq_eq_false_iff_ne.2 h]
theorem whoP_in {ps : List (Int × Int)} {p : Int × Int} {r : Int} (h : inP r ps = true) : whoP (ps ++ [p]) r = whoP ps r := by
  rw [← whoP_some] at h
  unfold whoP at h ⊢
  rw [List.find?_append]
  cases hf : ps.find? (fun p => p.1 == r) with
  | none => rw [hf] at h; cases h
  | some p => rfl
theorem whoP_new {ps : List (Int × Int)} {c r : Int} (h : inP r ps = false) : whoP (ps ++ [(r, c)]) r = some c := by
  rw [whoP_snoc, h]; simp

/-- Phase 0: what is looked at of the scene's counts: index and error. -/
def listsB (s : Sc) : Bool := decide (s.reqs.length ≤ 64) && (btwB s.cars.length 1 8 && (decide (s.lots.length ≤ 16) && decide (s.draws = s.cars.length)))
def termsB (s : Sc) : Bool := btwB s.cm 1 64 && (btwB s.rv 1 64 && btwB s.sch 0 1)
def fleetsL : Nat → List Cr → List (Int × Int)
  | _, [] => []
  | c, x :: cs => ((c : Int), unV (btwB x.fleet.length 1 4) 11) :: fleetsL (c + 1) cs
def countsL (s : Sc) : List (Int × Int) := (0, unV (listsB s) 11) :: (fleetsL 0 s.cars ++ [(0, unV (termsB s) 2)])
/-- Phase 1: the requests. -/
def reqsL : Nat → List Rq → List (Int × Int)
  | _, [] => []
  | r, q :: qs => ((r : Int), q.chk) :: reqsL (r + 1) qs
/-- Phase 2: the carriers. -/
def vehsL (c : Int) : List Vh → List (Int × Int)
  | [] => []
  | h :: hs => (c, h.chk) :: vehsL c hs
def ownsL (N c : Int) : List (Int × Int) → List Int → List (Int × Int)
  | _, [] => []
  | ps, r :: rs => (c, clmC N ps r) :: ownsL N c (ps ++ [(r, c)]) rs
def pairsC (c : Int) (x : Cr) : List (Int × Int) := x.own.map fun r => (r, c)
def carsL (N : Int) : Nat → List (Int × Int) → List Cr → List (Int × Int)
  | _, _, [] => []
  | c, ps, x :: xs => vehsL c x.fleet ++ (ownsL N c ps x.own ++ carsL N (c + 1) (ps ++ pairsC c x) xs)
def pairsL : Nat → List Cr → List (Int × Int)
  | _, [] => []
  | c, x :: xs => pairsC c x ++ pairsL (c + 1) xs
def nobodyL (N : Int) (ps : List (Int × Int)) : Nat → Nat → List (Int × Int)
  | _, 0 => []
  | r, n + 1 => ((r : Int), unV (mapP N ps r).isSome 11) :: nobodyL N ps (r + 1) n
def carriersL (s : Sc) : List (Int × Int) := carsL s.reqs.length 0 [] s.cars ++ nobodyL s.reqs.length (pairsL 0 s.cars) 0 s.reqs.length
/-- Phase 3: the lots. -/
def lotsFrom (N : Int) : Nat → List (Int × Int) → List Lt → List (Int × Int)
  | _, _, [] => []
  | l, ps, x :: xs => ((l : Int), clmC N ps x.req) :: ((l : Int), unV (btwB x.res 0 16777216) 3) :: lotsFrom N (l + 1) (ps ++ [(x.req, (l : Int))]) xs
def lotsL (s : Sc) : List (Int × Int) := lotsFrom s.reqs.length 0 [] s.lots

/-- All that is looked at: error, phase, index. -/
def tagL (p : Int) (l : List (Int × Int)) : List (Int × Int × Int) := l.map fun x => (x.2, p, x.1)
def allL (s : Sc) : List (Int × Int × Int) := tagL 0 (countsL s) ++ (tagL 1 (reqsL 0 s.reqs) ++ (tagL 2 (carriersL s) ++ tagL 3 (lotsL s)))

def good2 (x : Int × Int) : Bool := x.2 == 0
def good3 (x : Int × Int × Int) : Bool := x.1 == 0
/-- What is wrong first; zeros: nothing. -/
def firstBad (l : List (Int × Int × Int)) : Int × Int × Int := (l.find? fun x => !good3 x).getD (0, 0, 0)
def faultV (s : Sc) : Int × Int × Int := firstBad (allL s)

theorem firstBad_upTo (l : List (Int × Int × Int)) : firstBad (upTo good3 l) = firstBad l := by
  unfold firstBad
  congr 1
  induction l with
  | nil => rfl
  | cons x l ih =>
    cases h : good3 x
    · rw [upTo_bad h]; simp [List.find?, h]
    · rw [upTo_good h]; simp [List.find?, h, ih]
theorem firstBad_snoc {pre : List (Int × Int × Int)} {x : Int × Int × Int} (h : ∀ y ∈ pre, good3 y = true) : firstBad (pre ++ [x]) = if good3 x then (0, 0, 0) else x := by
  unfold firstBad
  have h0 : pre.find? (fun x => !good3 x) = none := by
    rw [List.find?_eq_none]
    intro y hy
    simp [h y hy]
  rw [List.find?_append, h0]
  cases hx : good3 x <;> simp [List.find?, hx]
theorem firstBad_good {l : List (Int × Int × Int)} (h : ∀ y ∈ l, good3 y = true) : firstBad l = (0, 0, 0) := by
  unfold firstBad
  have h0 : l.find? (fun x => !good3 x) = none := by
    rw [List.find?_eq_none]
    intro y hy
    simp [h y hy]
  rw [h0]; rfl
theorem firstBad_code {l : List (Int × Int × Int)} : (firstBad l).1 = 0 → firstBad l = (0, 0, 0) := by
  unfold firstBad
  cases h : l.find? (fun x => !good3 x) with
  | none => intro _; rfl
  | some x =>
    intro hx
    have h1 := List.find?_some h
    simp only [Option.getD_some] at hx
    simp [good3, hx] at h1
theorem tagL_upTo (p : Int) (l : List (Int × Int)) : tagL p (upTo good2 l) = upTo good3 (tagL p l) := by
  induction l with
  | nil => rfl
  | cons x l ih =>
    have e : good3 (x.2, p, x.1) = good2 x := rfl
    cases h : good2 x
    · rw [upTo_bad h]
      show [_] = upTo good3 ((x.2, p, x.1) :: tagL p l)
      rw [upTo_bad (e.trans h)]
    · rw [upTo_good h]
      show (x.2, p, x.1) :: tagL p (upTo good2 l) = upTo good3 ((x.2, p, x.1) :: tagL p l)
      rw [upTo_good (e.trans h), ih]
theorem tagL_good {p : Int} {l : List (Int × Int)} : (∀ y ∈ tagL p l, good3 y = true) ↔ ∀ y ∈ l, good2 y = true := by
  constructor
  · intro h y hy
    exact h (y.2, p, y.1) (List.mem_map.2 ⟨y, hy, rfl⟩)
  · intro h y hy
    obtain ⟨x, hx, rfl⟩ := List.mem_map.1 hy
    exact h x hx
theorem tagL_snoc (p : Int) (l : List (Int × Int)) (x : Int × Int) : tagL p (l ++ [x]) = tagL p l ++ [(x.2, p, x.1)] := by simp [tagL]

/-- Who owns what. -/
def ownerV (s : Sc) (r : Int) : Int := (whoP (pairsL 0 s.cars) r).getD (-1)
def ownersL (s : Sc) : List Int := (List.range s.reqs.length).map fun r : Nat => ownerV s (r : Int)

theorem mapP_pos {N : Int} {ps : List (Int × Int)} (h : ∀ p ∈ ps, 0 ≤ p.2) : ∀ q d, mapP N ps q = some d → 0 ≤ d := by
  intro q d hd
  unfold mapP whoP at hd
  split at hd
  · cases hf : ps.find? (fun p => p.1 == q) with
    | none => rw [hf] at hd; cases hd
    | some p =>
      rw [hf] at hd
      cases hd
      exact h p (List.mem_of_find?_eq_some hf)
  · cases hd
theorem mapP_isSome (N : Int) (ps : List (Int × Int)) (r : Int) : (mapP N ps r).isSome = (btwB r 0 (N - 1) && inP r ps) := by
  unfold mapP
  rw [← whoP_some]
  cases btwB r 0 (N - 1) <;> simp

end Go.Proofs.YtlkijbakfoabaaaDoor.Scene

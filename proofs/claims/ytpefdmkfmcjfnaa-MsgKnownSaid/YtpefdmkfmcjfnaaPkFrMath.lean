import Derived.Test.YtpefdmkfmcjfnaaPkOctArr
import Derived.Test.YtpefdmkfmcjfnaaPkPlaceMath
import Derived.Stop.BytesEq

namespace Go.Proofs.Ytpefdmkfmcjfnaa.Fr
open Go.Proofs.Ytpefdmkfmcjfnaa.Oct
set_option linter.unusedVariables false
structure Fd where
 k : Nat
 body : Bs
 rest : Bs
def big (b c : UInt8) : Nat := 256 * b.toNat + c.toNat
def front : Bs → Option Fd
 | a :: b :: c :: t => if big b c ≤ t.length then some ⟨a.toNat, t.take (big b c), t.drop (big b c)⟩ else none
 | _ => none
def frL (k : Nat) (b : Bs) : Bs := UInt8.ofNat k :: UInt8.ofNat (b.length / 256) :: UInt8.ofNat (b.length % 256) :: b
def spK (s : Bs) : Int := match front s with | some f => (f.k : Int) | none => 0
def spB (s : Bs) : Bs := match front s with | some f => f.body | none => []
def spR (s : Bs) : Bs := match front s with | some f => f.rest | none => []
def spE (s : Bs) : Int := match front s with | some _ => 0 | none => 14
def paK (s : Bs) : Int := match front s with | some f => (if f.rest = [] then (f.k : Int) else 0) | none => 0
def paB (s : Bs) : Bs := match front s with | some f => (if f.rest = [] then f.body else []) | none => []
def paE (s : Bs) : Int := match front s with | some f => (if f.rest = [] then 0 else 15) | none => 14
inductive Run : Bs → List Fd → Bs → Prop
 | stop {s : Bs} (h : front s = none) : Run s [] s
 | go {s r : Bs} {f : Fd} {l : List Fd} (h : front s = some f) (h2 : Run f.rest l r) : Run s (f :: l) r
theorem big_lt (b c : UInt8) : big b c < 65536 := by
 have := b.toNat_lt
 have := c.toNat_lt
 unfold big
 omega
theorem big_of {n : Nat} (h : n < 65536) : big (UInt8.ofNat (n / 256)) (UInt8.ofNat (n % 256)) = n := by
 unfold big
 rw [UInt8.toNat_ofNat', UInt8.toNat_ofNat']
 omega
theorem front_some {s : Bs} {f : Fd} (h : front s = some f) : f.k < 256 ∧ f.body.length < 65536 ∧ s = frL f.k f.body ++ f.rest := by
 match s, h with
 | a :: b :: c :: t, h =>
  simp only [front] at h
  split at h
  case isFalse => cases h
  case isTrue hl =>
   cases h
   have ha := a.toNat_lt
   have hb := big_lt b c
   have hn : (t.take (big b c)).length = big b c := by rw [List.length_take]; omega
   refine ⟨ha, by rw [hn]; exact hb, ?_⟩
   have h1 : UInt8.ofNat (big b c / 256) = b := by
    have := b.toNat_lt
    have := c.toNat_lt
    rw [show big b c / 256 = b.toNat by unfold big; omega, UInt8.ofNat_toNat]
   have h2 : UInt8.ofNat (big b c % 256) = c := by
    have := b.toNat_lt
    have := c.toNat_lt
    rw [show big b c % 256 = c.toNat by unfold big; omega, UInt8.ofNat_toNat]
   simp only [frL, hn, h1, h2, UInt8.ofNat_toNat, List.cons_append, List.take_append_drop]
theorem front_lay {k : Nat} {b : Bs} (hk : k < 256) (hb : b.length < 65536) (t : Bs) : front (frL k b ++ t) = some ⟨k, b, t⟩ := by
 simp only [frL, List.cons_append, front, big_of hb]
 rw [if_pos (by rw [List.length_append]; omega), List.take_left' rfl, List.drop_left' rfl, UInt8.toNat_ofNat', Nat.mod_eq_of_lt (by simpa using hk)]
theorem frL_length (k : Nat) (b : Bs) : (frL k b).length = 3 + b.length := by
 simp [frL]
 omega
theorem rest_length {s : Bs} {f : Fd} (h : front s = some f) : f.rest.length + 3 ≤ s.length := by
 obtain ⟨_, _, e⟩ := front_some h
 have := congrArg List.length e
 rw [List.length_append, frL_length] at this
 omega
theorem run_all : ∀ (n : Nat) (s : Bs), s.length ≤ n → ∃ l r, Run s l r
 | 0, s, h => by
  obtain rfl := List.eq_nil_of_length_eq_zero (Nat.le_zero.1 h)
  exact ⟨[], [], .stop rfl⟩
 | n + 1, s, h => by
  cases hf : front s with
  | none => exact ⟨[], s, .stop hf⟩
  | some f =>
   have := rest_length hf
   obtain ⟨l, r, hr⟩ := run_all n f.rest (by omega)
   exact ⟨f :: l, r, .go hf hr⟩
theorem Run.some (s : Bs) : ∃ l r, Run s l r := run_all s.length s (Nat.le_refl _)
theorem Run.length {s r : Bs} {l : List Fd} (h : Run s l r) : l.length ≤ s.length := by
 induction h with
 | stop _ => simp
 | go h _ ih =>
  have := rest_length h
  simp
  omega
theorem Run.left {s r : Bs} {l : List Fd} (h : Run s l r) : front r = none := by
 induction h with
 | stop h => exact h
 | go _ _ ih => exact ih
theorem Run.same {s r r' : Bs} {l l' : List Fd} (h : Run s l r) (h' : Run s l' r') : l = l' ∧ r = r' := by
 induction h generalizing l' r' with
 | stop h =>
  cases h' with
  | stop _ => exact ⟨rfl, rfl⟩
  | go h2 _ => rw [h] at h2; cases h2
 | go h _ ih =>
  cases h' with
  | stop h2 => rw [h] at h2; cases h2
  | go h2 h3 =>
   rw [h] at h2
   cases h2
   obtain ⟨rfl, rfl⟩ := ih h3
   exact ⟨rfl, rfl⟩
end Go.Proofs.Ytpefdmkfmcjfnaa.Fr
namespace Go.Proofs.Ytpefdmkfmcjfnaa.Ms
open Go.Proofs.Ytpefdmkfmcjfnaa.Oct
set_option linter.unusedVariables false
structure Rq where
 fx : Int
 fy : Int
 tx : Int
 ty : Int
 pe : Int
 pl : Int
 de : Int
 dl : Int
 ld : Int
 sv : Int
structure Oc where
 st : Int
 wn : Int
 pr : Nat
structure Ms where
 kind : Int
 rnd : Int
 car : Int
 req : Int
 rsv : Int
 rq : Rq
 dig : Bs
 marks : List (Int × Bs)
 bid : Nat
 nonce : Nat
 oc : Oc
def zD : Bs := List.replicate 32 0
def zRq : Rq := ⟨0, 0, 0, 0, 0, 0, 0, 0, 0, 0⟩
def zOc : Oc := ⟨0, 0, 0⟩
def z0 : Ms := ⟨0, 0, 0, 0, 0, zRq, zD, [], 0, 0, zOc⟩
def rqB (a b : Rq) : Bool := decide (a.fx = b.fx ∧ a.fy = b.fy ∧ a.tx = b.tx ∧ a.ty = b.ty ∧ a.pe = b.pe ∧ a.pl = b.pl ∧ a.de = b.de ∧ a.dl = b.dl ∧ a.ld = b.ld ∧ a.sv = b.sv)
def ocE (a b : Oc) : Bool := decide (a.st = b.st ∧ a.wn = b.wn ∧ a.pr = b.pr)
theorem rqB_iff (a b : Rq) : rqB a b = true ↔ a = b := by
 obtain ⟨a0, a1, a2, a3, a4, a5, a6, a7, a8, a9⟩ := a
 obtain ⟨b0, b1, b2, b3, b4, b5, b6, b7, b8, b9⟩ := b
 simp [rqB]
theorem ocE_iff (a b : Oc) : ocE a b = true ↔ a = b := by
 obtain ⟨a0, a1, a2⟩ := a
 obtain ⟨b0, b1, b2⟩ := b
 simp [ocE]
def sameB (a b : Ms) : Bool :=
 decide (a.kind = b.kind) && (decide (a.rnd = b.rnd) && (decide (a.car = b.car) && (decide (a.req = b.req) && (decide (a.rsv = b.rsv) && (rqB a.rq b.rq && ((a.dig == b.dig) && ((a.marks == b.marks) && (decide (a.bid = b.bid) && (decide (a.nonce = b.nonce) && ocE a.oc b.oc)))))))))
theorem sameB_iff (a b : Ms) : sameB a b = true ↔ a = b := by
 obtain ⟨a0, a1, a2, a3, a4, a5, a6, a7, a8, a9, a10⟩ := a
 obtain ⟨b0, b1, b2, b3, b4, b5, b6, b7, b8, b9, b10⟩ := b
 simp [sameB, rqB_iff, ocE_iff]
def bareM (m : Ms) : Ms :=
 if m.kind = 1 then { z0 with kind := m.kind, rnd := m.rnd, req := m.req, rsv := m.rsv, rq := m.rq }
 else if m.kind = 2 then { z0 with kind := m.kind, rnd := m.rnd, car := m.car, dig := m.dig }
 else if m.kind = 3 then { z0 with kind := m.kind, rnd := m.rnd, marks := m.marks }
 else if m.kind = 4 then { z0 with kind := m.kind, rnd := m.rnd, car := m.car, bid := m.bid, nonce := m.nonce }
 else if m.kind = 5 then { z0 with kind := m.kind, rnd := m.rnd, oc := m.oc }
 else { z0 with kind := m.kind, rnd := m.rnd }
def carB (c : Int) : Bool := decide (0 ≤ c ∧ c < 8)
def ocB (o : Oc) : Bool := if o.st = 3 then decide (o.wn = -1 ∧ o.pr = 0) else decide ((o.st = 2 ∨ o.st = 4) ∧ (0 ≤ o.wn ∧ o.wn < 8) ∧ o.pr ≤ 16777216)
def markB (l : List (Int × Bs)) (i : Nat) : Bool := carB (l.getD i (0, [])).1 && (decide (i = 0) || decide ((l.getD (i - 1) (0, [])).1 < (l.getD i (0, [])).1))
def upB (l : List (Int × Bs)) : Bool := (List.range l.length).all (markB l)
def chkR (r : Rq) : Int := Order.chk r.fx r.fy r.tx r.ty r.pe r.pl r.de r.dl r.ld r.sv
def kindB (m : Ms) : Bool :=
 if m.kind = 1 then decide (0 ≤ m.req ∧ m.req < 64 ∧ 0 ≤ m.rsv ∧ m.rsv ≤ 16777216 ∧ chkR m.rq = 0)
 else if m.kind = 2 then carB m.car
 else if m.kind = 4 then carB m.car && decide (m.bid ≤ 4294967296)
 else if m.kind = 5 then ocB m.oc
 else upB m.marks
def mayB (m : Ms) : Bool := decide (1 ≤ m.kind ∧ m.kind ≤ 5 ∧ 0 ≤ m.rnd ∧ m.rnd < 16) && (sameB m (bareM m) && kindB m)
def lay1 (x : Int) (k : Nat) : Bs := laidL x.toNat k
def rqL (r : Rq) : Bs := lay1 r.fx 2 ++ (lay1 r.fy 2 ++ (lay1 r.tx 2 ++ (lay1 r.ty 2 ++ (lay1 r.pe 4 ++ (lay1 r.pl 4 ++ (lay1 r.de 4 ++ (lay1 r.dl 4 ++ (lay1 r.ld 2 ++ lay1 r.sv 2))))))))
def markL (p : Int × Bs) : Bs := lay1 p.1 1 ++ p.2
def marksL (l : List (Int × Bs)) : Bs := (l.map markL).flatten
def partL (m : Ms) : Bs :=
 if m.kind = 1 then lay1 m.req 1 ++ (lay1 m.rsv 4 ++ rqL m.rq)
 else if m.kind = 2 then lay1 m.car 1 ++ m.dig
 else if m.kind = 4 then lay1 m.car 1 ++ (laidL m.bid 8 ++ laidL m.nonce 8)
 else if m.kind = 5 then lay1 m.oc.st 1 ++ (lay1 (m.oc.wn + 1) 1 ++ laidL m.oc.pr 8)
 else laidL m.marks.length 1 ++ marksL m.marks
def bodyL (m : Ms) : Bs := lay1 m.rnd 1 ++ partL m
def frameL (k : Nat) (b : Bs) : Bs := laidL k 1 ++ (laidL b.length 2 ++ b)
def encL (m : Ms) : Bs := if mayB m then frameL m.kind.toNat (bodyL m) else []
def encE (m : Ms) : Int := if mayB m then 0 else 15
def digS : Nat → St → Bs × St
 | 0, st => ([], st)
 | n + 1, st => (UInt8.ofNat (numS st 1).1 :: (digS n (numS st 1).2).1, (digS n (numS st 1).2).2)
def markS : Nat → St → List (Int × Bs) × St
 | 0, st => ([], st)
 | _ + 1, none => ([], none)
 | n + 1, some l => ((((numS (some l) 1).1 : Int), (digS 32 (numS (some l) 1).2).1) :: (markS n (digS 32 (numS (some l) 1).2).2).1, (markS n (digS 32 (numS (some l) 1).2).2).2)
def rqS (st : St) : Rq × St :=
 let a := numS st 2
 let b := numS a.2 2
 let c := numS b.2 2
 let d := numS c.2 2
 let e := numS d.2 4
 let f := numS e.2 4
 let g := numS f.2 4
 let h := numS g.2 4
 let i := numS h.2 2
 let j := numS i.2 2
 (⟨a.1, b.1, c.1, d.1, e.1, f.1, g.1, h.1, i.1, j.1⟩, j.2)
def readS (k : Int) (st : St) : Ms × St :=
 let r := numS st 1
 let z := { z0 with kind := k, rnd := (r.1 : Int) }
 if k = 1 then
  let a := numS r.2 1
  let b := numS a.2 4
  let q := rqS b.2
  ({ z with req := (a.1 : Int), rsv := (b.1 : Int), rq := q.1 }, q.2)
 else if k = 2 then
  let a := numS r.2 1
  let d := digS 32 a.2
  ({ z with car := (a.1 : Int), dig := d.1 }, d.2)
 else if k = 3 then
  let a := numS r.2 1
  let l := markS a.1 a.2
  ({ z with marks := l.1 }, l.2)
 else if k = 4 then
  let a := numS r.2 1
  let b := numS a.2 8
  let c := numS b.2 8
  ({ z with car := (a.1 : Int), bid := b.1, nonce := c.1 }, c.2)
 else if k = 5 then
  let a := numS r.2 1
  let b := numS a.2 1
  let c := numS b.2 8
  ({ z with oc := ⟨(a.1 : Int), (b.1 : Int) - 1, c.1⟩ }, c.2)
 else (z, r.2)
def bodyM (k : Int) (b : Bs) : Ms × Int :=
 match (readS k (some b)).2 with
 | none => (z0, 14)
 | some rest => if rest = [] ∧ mayB (readS k (some b)).1 = true then ((readS k (some b)).1, 0) else (z0, 15)
def decS (s : Bs) : Ms × Int :=
 match Fr.front s with
 | none => (z0, 14)
 | some f => if f.rest ≠ [] ∨ (f.k : Int) < 1 ∨ 5 < (f.k : Int) then (z0, 15) else bodyM f.k f.body
end Go.Proofs.Ytpefdmkfmcjfnaa.Ms
namespace Go.Proofs.Ytpefdmkfmcjfnaa.Ms
open Go.RowKit Go.Sort Go.Proofs.Ytpefdmkfmcjfnaa.Mem Go.Proofs.Ytpefdmkfmcjfnaa.Route Go.Proofs.Ytpefdmkfmcjfnaa.Oct
set_option linter.unusedVariables false
def rqC (r : Rq) : List Value := [.int .i64 r.fx, .int .i64 r.fy, .int .i64 r.tx, .int .i64 r.ty, .int .i64 r.pe, .int .i64 r.pl, .int .i64 r.de, .int .i64 r.dl, .int .i64 r.ld, .int .i64 r.sv]
def ocC (o : Oc) : List Value := [.int .i64 o.st, .int .i64 o.wn, .int .u64 (o.pr : Int)]
def markC (p : Int × Bs) : List Value := .int .i64 p.1 :: p.2.map u8V
def msC (m : Ms) (v : Value) : List Value :=
 [.int .i64 m.kind, .int .i64 m.rnd, .int .i64 m.car, .int .i64 m.req, .int .i64 m.rsv] ++ (rqC m.rq ++ (m.dig.map u8V ++ (v :: .int .u64 (m.bid : Int) :: .int .u64 (m.nonce : Int) :: ocC m.oc)))
theorem eqPl (a b c d : Int) (w : World) : Sem.run Try.prog (Op.equalIn 9999 31 (.agg #[.int .i64 a, .int .i64 b]) (.agg #[.int .i64 c, .int .i64 d])) w = .ok (decide (a = c ∧ b = d)) w := by
 unfold Op.equalIn
 simp [go_sem]
 by_cases h1 : a = c <;> by_cases h2 : b = d <;> simp [h1, h2]
theorem eqWi (a b c d : Int) (w : World) : Sem.run Try.prog (Op.equalIn 9999 33 (.agg #[.int .i64 a, .int .i64 b]) (.agg #[.int .i64 c, .int .i64 d])) w = .ok (decide (a = c ∧ b = d)) w := by
 unfold Op.equalIn
 simp [go_sem]
 by_cases h1 : a = c <;> by_cases h2 : b = d <;> simp [h1, h2]
set_option maxRecDepth 100000 in
theorem eqRq (a b : Rq) (w : World) : Sem.run Try.prog (Op.equalIn 10000 35 (.agg (rqC a).toArray) (.agg (rqC b).toArray)) w = .ok (rqB a b) w := by
 obtain ⟨a0, a1, a2, a3, a4, a5, a6, a7, a8, a9⟩ := a
 obtain ⟨b0, b1, b2, b3, b4, b5, b6, b7, b8, b9⟩ := b
 rw [run_equalIn_agg w 9999 35 _ _ (by kernel_rfl) (by kernel_rfl)]
 simp [go_sem, rqC, rqB, eqPl, eqWi]
 by_cases h0 : a0 = b0
 case neg => simp [h0]
 by_cases h1 : a1 = b1
 case neg => simp [h1]
 by_cases h2 : a2 = b2
 case neg => simp [h2]
 by_cases h3 : a3 = b3
 case neg => simp [h3]
 by_cases h4 : a4 = b4
 case neg => simp [h4]
 by_cases h5 : a5 = b5
 case neg => simp [h5]
 by_cases h6 : a6 = b6
 case neg => simp [h6]
 by_cases h7 : a7 = b7
 case neg => simp [h7]
 by_cases h8 : a8 = b8
 case neg => simp [h8]
 by_cases h9 : a9 = b9
 case neg => simp [h9]
 simp [h0, h1, h2, h3, h4, h5, h6, h7, h8, h9]
theorem eqOc (a b : Oc) (w : World) : Sem.run Try.prog (Op.equalIn 10000 40 (.agg (ocC a).toArray) (.agg (ocC b).toArray)) w = .ok (ocE a b) w := by
 obtain ⟨a0, a1, a2⟩ := a
 obtain ⟨b0, b1, b2⟩ := b
 rw [run_equalIn_agg w 9999 40 _ _ (by kernel_rfl) (by kernel_rfl)]
 simp [go_sem, ocC, ocE]
 by_cases h0 : a0 = b0
 case neg => simp [h0]
 by_cases h1 : a1 = b1
 case neg => simp [h1]
 by_cases h2 : a2 = b2
 case neg =>
  have h3 : ¬ (a2 : Int) = (b2 : Int) := by omega
  simp [h2, h3]
 simp [h0, h1, h2]
theorem eqDig (a b : Bs) (ha : a.length = 32) (hb : b.length = 32) (w : World) : Sem.run Try.prog (Op.equalIn 10000 37 (.agg (a.map u8V).toArray) (.agg (b.map u8V).toArray)) w = .ok (a == b) w :=
 run_equalIn_bytes w 9998 37 5 32 Try.underlying37 Try.underlying5 (fun w => by kernel_rfl) a b ha hb
theorem eqDig9 (a b : Bs) (ha : a.length = 32) (hb : b.length = 32) (w : World) : Sem.run Try.prog (Op.equalIn 9999 37 (.agg (a.map u8V).toArray) (.agg (b.map u8V).toArray)) w = .ok (a == b) w :=
 run_equalIn_bytes w 9997 37 5 32 Try.underlying37 Try.underlying5 (fun w => by kernel_rfl) a b ha hb
theorem tail_mark (p : Int × Bs) (h : p.2.length = 32) : List.take 32 (markC p).tail = p.2.map u8V := by
 rw [markC, List.tail_cons, List.take_of_length_le (by simp [h])]
theorem eqMark (a b : Int × Bs) (ha : a.2.length = 32) (hb : b.2.length = 32) (w : World) : Sem.run Try.prog (Op.equalIn 10000 65 (.agg (markC a).toArray) (.agg (markC b).toArray)) w = .ok (a == b) w := by
 rw [run_equalIn_agg w 9999 65 _ _ (by kernel_rfl) (by kernel_rfl)]
 have c0 : (markC a)[0]? = some (.int .i64 a.1) := rfl
 have d0 : (markC b)[0]? = some (.int .i64 b.1) := rfl
 simp [go_sem, tail_mark a ha, tail_mark b hb, c0, d0, eqDig9 _ _ ha hb]
 obtain ⟨x, xs⟩ := a
 obtain ⟨y, ys⟩ := b
 by_cases h1 : x = y
 case neg => simp [h1]
 by_cases h2 : xs = ys
 case neg => simp [h2]
 simp [h1, h2]
structure Ms.ok (m : Ms) : Prop where
 dig : m.dig.length = 32
 marks : ∀ p ∈ m.marks, p.2.length = 32
variable {m : Ms} {v : Value}
theorem msC_len (h : m.dig.length = 32) : (msC m v).length = 53 := by simp [msC, rqC, ocC, h]
theorem ms_kind : (msC m v)[0]? = some (.int .i64 m.kind) := rfl
theorem ms_rnd : (msC m v)[1]? = some (.int .i64 m.rnd) := rfl
theorem ms_car : (msC m v)[2]? = some (.int .i64 m.car) := rfl
theorem ms_req : (msC m v)[3]? = some (.int .i64 m.req) := rfl
theorem ms_rsv : (msC m v)[4]? = some (.int .i64 m.rsv) := rfl
theorem ms_rq {j : Nat} {x : Value} (h : (rqC m.rq)[j]? = some x) : (msC m v)[5 + j]? = some x := by
 have hj : j < 10 := (List.getElem?_eq_some_iff.1 h).1
 rw [msC, List.getElem?_append_right (by simp), List.getElem?_append_left (by simp [rqC]; omega)]
 simpa using h
theorem ms_dig {j : Nat} {x : Value} (h : (m.dig.map u8V)[j]? = some x) : (msC m v)[15 + j]? = some x := by
 have hj : j < (m.dig.map u8V).length := (List.getElem?_eq_some_iff.1 h).1
 rw [msC, List.getElem?_append_right (by simp; omega), List.getElem?_append_right (by simp [rqC]; omega), List.getElem?_append_left (by simp [rqC] at hj ⊢; omega)]
 rw [← h]
 congr 1
 simp [rqC]
 omega
theorem ms_end {j : Nat} {x : Value} (hd : m.dig.length = 32) (h : (v :: .int .u64 (m.bid : Int) :: .int .u64 (m.nonce : Int) :: ocC m.oc)[j]? = some x) : (msC m v)[47 + j]? = some x := by
 rw [msC, List.getElem?_append_right (by simp; omega), List.getElem?_append_right (by simp [rqC]; omega), List.getElem?_append_right (by simp [rqC, hd]; omega)]
 rw [← h]
 congr 1
 simp [rqC, hd]
 omega
theorem ms_marks (hd : m.dig.length = 32) : (msC m v)[47]? = some v := ms_end (j := 0) hd rfl
theorem ms_bid (hd : m.dig.length = 32) : (msC m v)[48]? = some (.int .u64 (m.bid : Int)) := ms_end (j := 1) hd rfl
theorem ms_nonce (hd : m.dig.length = 32) : (msC m v)[49]? = some (.int .u64 (m.nonce : Int)) := ms_end (j := 2) hd rfl
theorem ms_st (hd : m.dig.length = 32) : (msC m v)[50]? = some (.int .i64 m.oc.st) := ms_end (j := 3) hd rfl
theorem ms_wn (hd : m.dig.length = 32) : (msC m v)[51]? = some (.int .i64 m.oc.wn) := ms_end (j := 4) hd rfl
theorem ms_pr (hd : m.dig.length = 32) : (msC m v)[52]? = some (.int .u64 (m.oc.pr : Int)) := ms_end (j := 5) hd rfl
theorem ms_oc {j : Nat} {x : Value} (hd : m.dig.length = 32) (h : (ocC m.oc)[j]? = some x) : (msC m v)[50 + j]? = some x := by
 have := ms_end (v := v) (j := 3 + j) hd (x := x) (by rw [show 3 + j = j + 1 + 1 + 1 by omega]; simpa using h)
 rwa [show 47 + (3 + j) = 50 + j by omega] at this
end Go.Proofs.Ytpefdmkfmcjfnaa.Ms

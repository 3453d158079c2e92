import Derived.Test.YtpefdmkfmcjfnaaPkMsWalkR
import Derived.Test.YtpefdmkfmcjfnaaPkPlaceMath
import Derived.Stop.BytesEq

namespace Go.Proofs.Ytpefdmkfmcjfnaa.Ms
open Go.Proofs.Ytpefdmkfmcjfnaa.Oct
set_option linter.unusedVariables false
structure Rq where
 fx : Int
 fy : Int
 tx : Int
 ty : Int
 pe : Int
 pl : Int
 de : Int
 dl : Int
 ld : Int
 sv : Int
structure Oc where
 st : Int
 wn : Int
 pr : Nat
structure Ms where
 kind : Int
 rnd : Int
 car : Int
 req : Int
 rsv : Int
 rq : Rq
 dig : Bs
 marks : List (Int × Bs)
 bid : Nat
 nonce : Nat
 oc : Oc
def zD : Bs := List.replicate 32 0
def zRq : Rq := ⟨0, 0, 0, 0, 0, 0, 0, 0, 0, 0⟩
def zOc : Oc := ⟨0, 0, 0⟩
def z0 : Ms := ⟨0, 0, 0, 0, 0, zRq, zD, [], 0, 0, zOc⟩
def rqB (a b : Rq) : Bool := decide (a.fx = b.fx ∧ a.fy = b.fy ∧ a.tx = b.tx ∧ a.ty = b.ty ∧ a.pe = b.pe ∧ a.pl = b.pl ∧ a.de = b.de ∧ a.dl = b.dl ∧ a.ld = b.ld ∧ a.sv = b.sv)
def ocE (a b : Oc) : Bool := decide (a.st = b.st ∧ a.wn = b.wn ∧ a.pr = b.pr)
theorem rqB_iff (a b : Rq) : rqB a b = true ↔ a = b := by
 obtain ⟨a0, a1, a2, a3, a4, a5, a6, a7, a8, a9⟩ := a
 obtain ⟨b0, b1, b2, b3, b4, b5, b6, b7, b8, b9⟩ := b
 simp [rqB]
theorem ocE_iff (a b : Oc) : ocE a b = true ↔ a = b := by
 obtain ⟨a0, a1, a2⟩ := a
 obtain ⟨b0, b1, b2⟩ := b
 simp [ocE]
def sameB (a b : Ms) : Bool :=
 decide (a.kind = b.kind) && (decide (a.rnd = b.rnd) && (decide (a.car = b.car) && (decide (a.req = b.req) && (decide (a.rsv = b.rsv) && (rqB a.rq b.rq && ((a.dig == b.dig) && ((a.marks == b.marks) && (decide (a.bid = b.bid) && (decide (a.nonce = b.nonce) && ocE a.oc b.oc)))))))))
theorem sameB_iff (a b : Ms) : sameB a b = true ↔ a = b := by
 obtain ⟨a0, a1, a2, a3, a4, a5, a6, a7, a8, a9, a10⟩ := a
 obtain ⟨b0, b1, b2, b3, b4, b5, b6, b7, b8, b9, b10⟩ := b
 simp [sameB, rqB_iff, ocE_iff]
def bareM (m : Ms) : Ms :=
 if m.kind = 1 then { z0 with kind := m.kind, rnd := m.rnd, req := m.req, rsv := m.rsv, rq := m.rq }
 else if m.kind = 2 then { z0 with kind := m.kind, rnd := m.rnd, car := m.car, dig := m.dig }
 else if m.kind = 3 then { z0 with kind := m.kind, rnd := m.rnd, marks := m.marks }
 else if m.kind = 4 then { z0 with kind := m.kind, rnd := m.rnd, car := m.car, bid := m.bid, nonce := m.nonce }
 else if m.kind = 5 then { z0 with kind := m.kind, rnd := m.rnd, oc := m.oc }
 else { z0 with kind := m.kind, rnd := m.rnd }
def carB (c : Int) : Bool := decide (0 ≤ c ∧ c < 8)
def ocB (o : Oc) : Bool := if o.st = 3 then decide (o.wn = -1 ∧ o.pr = 0) else decide ((o.st = 2 ∨ o.st = 4) ∧ (0 ≤ o.wn ∧ o.wn < 8) ∧ o.pr ≤ 16777216)
def markB (l : List (Int × Bs)) (i : Nat) : Bool := carB (l.getD i (0, [])).1 && (decide (i = 0) || decide ((l.getD (i - 1) (0, [])).1 < (l.getD i (0, [])).1))
def upB (l : List (Int × Bs)) : Bool := (List.range l.length).all (markB l)
def chkR (r : Rq) : Int := Order.chk r.fx r.fy r.tx r.ty r.pe r.pl r.de r.dl r.ld r.sv
def kindB (m : Ms) : Bool :=
 if m.kind = 1 then decide (0 ≤ m.req ∧ m.req < 64 ∧ 0 ≤ m.rsv ∧ m.rsv ≤ 16777216 ∧ chkR m.rq = 0)
 else if m.kind = 2 then carB m.car
 else if m.kind = 4 then carB m.car && decide (m.bid ≤ 4294967296)
 else if m.kind = 5 then ocB m.oc
 else upB m.marks
def mayB (m : Ms) : Bool := decide (1 ≤ m.kind ∧ m.kind ≤ 5 ∧ 0 ≤ m.rnd ∧ m.rnd < 16) && (sameB m (bareM m) && kindB m)
def lay1 (x : Int) (k : Nat) : Bs := laidL x.toNat k
def rqL (r : Rq) : Bs := lay1 r.fx 2 ++ (lay1 r.fy 2 ++ (lay1 r.tx 2 ++ (lay1 r.ty 2 ++ (lay1 r.pe 4 ++ (lay1 r.pl 4 ++ (lay1 r.de 4 ++ (lay1 r.dl 4 ++ (lay1 r.ld 2 ++ lay1 r.sv 2))))))))
def markL (p : Int × Bs) : Bs := lay1 p.1 1 ++ p.2
def marksL (l : List (Int × Bs)) : Bs := (l.map markL).flatten
def partL (m : Ms) : Bs :=
 if m.kind = 1 then lay1 m.req 1 ++ (lay1 m.rsv 4 ++ rqL m.rq)
 else if m.kind = 2 then lay1 m.car 1 ++ m.dig
 else if m.kind = 4 then lay1 m.car 1 ++ (laidL m.bid 8 ++ laidL m.nonce 8)
 else if m.kind = 5 then lay1 m.oc.st 1 ++ (lay1 (m.oc.wn + 1) 1 ++ laidL m.oc.pr 8)
 else laidL m.marks.length 1 ++ marksL m.marks
def bodyL (m : Ms) : Bs := lay1 m.rnd 1 ++ partL m
def frameL (k : Nat) (b : Bs) : Bs := laidL k 1 ++ (laidL b.length 2 ++ b)
def encL (m : Ms) : Bs := if mayB m then frameL m.kind.toNat (bodyL m) else []
def encE (m : Ms) : Int := if mayB m then 0 else 15
def digS : Nat → St → Bs × St
 | 0, st => ([], st)
 | n + 1, st => (UInt8.ofNat (numS st 1).1 :: (digS n (numS st 1).2).1, (digS n (numS st 1).2).2)
def markS : Nat → St → List (Int × Bs) × St
 | 0, st => ([], st)
 | _ + 1, none => ([], none)
 | n + 1, some l => ((((numS (some l) 1).1 : Int), (digS 32 (numS (some l) 1).2).1) :: (markS n (digS 32 (numS (some l) 1).2).2).1, (markS n (digS 32 (numS (some l) 1).2).2).2)
def rqS (st : St) : Rq × St :=
 let a := numS st 2
 let b := numS a.2 2
 let c := numS b.2 2
 let d := numS c.2 2
 let e := numS d.2 4
 let f := numS e.2 4
 let g := numS f.2 4
 let h := numS g.2 4
 let i := numS h.2 2
 let j := numS i.2 2
 (⟨a.1, b.1, c.1, d.1, e.1, f.1, g.1, h.1, i.1, j.1⟩, j.2)
def readS (k : Int) (st : St) : Ms × St :=
 let r := numS st 1
 let z := { z0 with kind := k, rnd := (r.1 : Int) }
 if k = 1 then
  let a := numS r.2 1
  let b := numS a.2 4
  let q := rqS b.2
  ({ z with req := (a.1 : Int), rsv := (b.1 : Int), rq := q.1 }, q.2)
 else if k = 2 then
  let a := numS r.2 1
  let d := digS 32 a.2
  ({ z with car := (a.1 : Int), dig := d.1 }, d.2)
 else if k = 3 then
  let a := numS r.2 1
  let l := markS a.1 a.2
  ({ z with marks := l.1 }, l.2)
 else if k = 4 then
  let a := numS r.2 1
  let b := numS a.2 8
  let c := numS b.2 8
  ({ z with car := (a.1 : Int), bid := b.1, nonce := c.1 }, c.2)
 else if k = 5 then
  let a := numS r.2 1
  let b := numS a.2 1
  let c := numS b.2 8
  ({ z with oc := ⟨(a.1 : Int), (b.1 : Int) - 1, c.1⟩ }, c.2)
 else (z, r.2)
def bodyM (k : Int) (b : Bs) : Ms × Int :=
 match (readS k (some b)).2 with
 | none => (z0, 14)
 | some rest => if rest = [] ∧ mayB (readS k (some b)).1 = true then ((readS k (some b)).1, 0) else (z0, 15)
def decS (s : Bs) : Ms × Int :=
 match Fr.front s with
 | none => (z0, 14)
 | some f => if f.rest ≠ [] ∨ (f.k : Int) < 1 ∨ 5 < (f.k : Int) then (z0, 15) else bodyM f.k f.body
end Go.Proofs.Ytpefdmkfmcjfnaa.Ms
namespace Go.Proofs.Ytpefdmkfmcjfnaa.Ms
open Go.RowKit Go.Sort Go.Proofs.Ytpefdmkfmcjfnaa.Mem Go.Proofs.Ytpefdmkfmcjfnaa.Route Go.Proofs.Ytpefdmkfmcjfnaa.Oct
set_option linter.unusedVariables false
def rqC (r : Rq) : List Value := [.int .i64 r.fx, .int .i64 r.fy, .int .i64 r.tx, .int .i64 r.ty, .int .i64 r.pe, .int .i64 r.pl, .int .i64 r.de, .int .i64 r.dl, .int .i64 r.ld, .int .i64 r.sv]
def ocC (o : Oc) : List Value := [.int .i64 o.st, .int .i64 o.wn, .int .u64 (o.pr : Int)]
def markC (p : Int × Bs) : List Value := .int .i64 p.1 :: p.2.map u8V
def msC (m : Ms) (v : Value) : List Value :=
 [.int .i64 m.kind, .int .i64 m.rnd, .int .i64 m.car, .int .i64 m.req, .int .i64 m.rsv] ++ (rqC m.rq ++ (m.dig.map u8V ++ (v :: .int .u64 (m.bid : Int) :: .int .u64 (m.nonce : Int) :: ocC m.oc)))
theorem eqPl (a b c d : Int) (w : World) : Sem.run Try.prog (Op.equalIn 9999 31 (.agg #[.int .i64 a, .int .i64 b]) (.agg #[.int .i64 c, .int .i64 d])) w = .ok (decide (a = c ∧ b = d)) w := by
 unfold Op.equalIn
 simp [go_sem]
 by_cases h1 : a = c <;> by_cases h2 : b = d <;> simp [h1, h2]
theorem eqWi (a b c d : Int) (w : World) : Sem.run Try.prog (Op.equalIn 9999 33 (.agg #[.int .i64 a, .int .i64 b]) (.agg #[.int .i64 c, .int .i64 d])) w = .ok (decide (a = c ∧ b = d)) w := by
 unfold Op.equalIn
 simp [go_sem]
 by_cases h1 : a = c <;> by_cases h2 : b = d <;> simp [h1, h2]
set_option maxRecDepth 100000 in
theorem eqRq (a b : Rq) (w : World) : Sem.run Try.prog (Op.equalIn 10000 35 (.agg (rqC a).toArray) (.agg (rqC b).toArray)) w = .ok (rqB a b) w := by
 obtain ⟨a0, a1, a2, a3, a4, a5, a6, a7, a8, a9⟩ := a
 obtain ⟨b0, b1, b2, b3, b4, b5, b6, b7, b8, b9⟩ := b
 rw [run_equalIn_agg w 9999 35 _ _ (by kernel_rfl) (by kernel_rfl)]
 simp [go_sem, rqC, rqB, eqPl, eqWi]
 by_cases h0 : a0 = b0
 case neg => simp [h0]
 by_cases h1 : a1 = b1
 case neg => simp [h1]
 by_cases h2 : a2 = b2
 case neg => simp [h2]
 by_cases h3 : a3 = b3
 case neg => simp [h3]
 by_cases h4 : a4 = b4
 case neg => simp [h4]
 by_cases h5 : a5 = b5
 case neg => simp [h5]
 by_cases h6 : a6 = b6
 case neg => simp [h6]
 by_cases h7 : a7 = b7
 case neg => simp [h7]
 by_cases h8 : a8 = b8
 case neg => simp [h8]
 by_cases h9 : a9 = b9
 case neg => simp [h9]
 simp [h0, h1, h2, h3, h4, h5, h6, h7, h8, h9]
theorem eqOc (a b : Oc) (w : World) : Sem.run Try.prog (Op.equalIn 10000 40 (.agg (ocC a).toArray) (.agg (ocC b).toArray)) w = .ok (ocE a b) w := by
 obtain ⟨a0, a1, a2⟩ := a
 obtain ⟨b0, b1, b2⟩ := b
 rw [run_equalIn_agg w 9999 40 _ _ (by kernel_rfl) (by kernel_rfl)]
 simp [go_sem, ocC, ocE]
 by_cases h0 : a0 = b0
 case neg => simp [h0]
 by_cases h1 : a1 = b1
 case neg => simp [h1]
 by_cases h2 : a2 = b2
 case neg =>
  have h3 : ¬ (a2 : Int) = (b2 : Int) := by omega
  simp [h2, h3]
 simp [h0, h1, h2]
theorem eqDig (a b : Bs) (ha : a.length = 32) (hb : b.length = 32) (w : World) : Sem.run Try.prog (Op.equalIn 10000 37 (.agg (a.map u8V).toArray) (.agg (b.map u8V).toArray)) w = .ok (a == b) w :=
 run_equalIn_bytes w 9998 37 5 32 Try.underlying37 Try.underlying5 (fun w => by kernel_rfl) a b ha hb
theorem eqDig9 (a b : Bs) (ha : a.length = 32) (hb : b.length = 32) (w : World) : Sem.run Try.prog (Op.equalIn 9999 37 (.agg (a.map u8V).toArray) (.agg (b.map u8V).toArray)) w = .ok (a == b) w :=
 run_equalIn_bytes w 9997 37 5 32 Try.underlying37 Try.underlying5 (fun w => by kernel_rfl) a b ha hb
theorem tail_mark (p : Int × Bs) (h : p.2.length = 32) : List.take 32 (markC p).tail = p.2.map u8V := by
 rw [markC, List.tail_cons, List.take_of_length_le (by simp [h])]
theorem eqMark (a b : Int × Bs) (ha : a.2.length = 32) (hb : b.2.length = 32) (w : World) : Sem.run Try.prog (Op.equalIn 10000 65 (.agg (markC a).toArray) (.agg (markC b).toArray)) w = .ok (a == b) w := by
 rw [run_equalIn_agg w 9999 65 _ _ (by kernel_rfl) (by kernel_rfl)]
 have c0 : (markC a)[0]? = some (.int .i64 a.1) := rfl
 have d0 : (markC b)[0]? = some (.int .i64 b.1) := rfl
 simp [go_sem, tail_mark a ha, tail_mark b hb, c0, d0, eqDig9 _ _ ha hb]
 obtain ⟨x, xs⟩ := a
 obtain ⟨y, ys⟩ := b
 by_cases h1 : x = y
 case neg => simp [h1]
 by_cases h2 : xs = ys
 case neg => simp [h2]
 simp [h1, h2]
structure Ms.ok (m : Ms) : Prop where
 dig : m.dig.length = 32
 marks : ∀ p ∈ m.marks, p.2.length = 32
variable {m : Ms} {v : Value}
theorem msC_len (h : m.dig.length = 32) : (msC m v).length = 53 := by simp [msC, rqC, ocC, h]
theorem ms_kind : (msC m v)[0]? = some (.int .i64 m.kind) := rfl
theorem ms_rnd : (msC m v)[1]? = some (.int .i64 m.rnd) := rfl
theorem ms_car : (msC m v)[2]? = some (.int .i64 m.car) := rfl
theorem ms_req : (msC m v)[3]? = some (.int .i64 m.req) := rfl
theorem ms_rsv : (msC m v)[4]? = some (.int .i64 m.rsv) := rfl
theorem ms_rq {j : Nat} {x : Value} (h : (rqC m.rq)[j]? = some x) : (msC m v)[5 + j]? = some x := by
 have hj : j < 10 := (List.getElem?_eq_some_iff.1 h).1
 rw [msC, List.getElem?_append_right (by simp), List.getElem?_append_left (by simp [rqC]; omega)]
 simpa using h
theorem ms_dig {j : Nat} {x : Value} (h : (m.dig.map u8V)[j]? = some x) : (msC m v)[15 + j]? = some x := by
 have hj : j < (m.dig.map u8V).length := (List.getElem?_eq_some_iff.1 h).1
 rw [msC, List.getElem?_append_right (by simp; omega), List.getElem?_append_right (by simp [rqC]; omega), List.getElem?_append_left (by simp [rqC] at hj ⊢; omega)]
 rw [← h]
 congr 1
 simp [rqC]
 omega
theorem ms_end {j : Nat} {x : Value} (hd : m.dig.length = 32) (h : (v :: .int .u64 (m.bid : Int) :: .int .u64 (m.nonce : Int) :: ocC m.oc)[j]? = some x) : (msC m v)[47 + j]? = some x := by
 rw [msC, List.getElem?_append_right (by simp; omega), List.getElem?_append_right (by simp [rqC]; omega), List.getElem?_append_right (by simp [rqC, hd]; omega)]
 rw [← h]
 congr 1
 simp [rqC, hd]
 omega
theorem ms_marks (hd : m.dig.length = 32) : (msC m v)[47]? = some v := ms_end (j := 0) hd rfl
theorem ms_bid (hd : m.dig.length = 32) : (msC m v)[48]? = some (.int .u64 (m.bid : Int)) := ms_end (j := 1) hd rfl
theorem ms_nonce (hd : m.dig.length = 32) : (msC m v)[49]? = some (.int .u64 (m.nonce : Int)) := ms_end (j := 2) hd rfl
theorem ms_st (hd : m.dig.length = 32) : (msC m v)[50]? = some (.int .i64 m.oc.st) := ms_end (j := 3) hd rfl
theorem ms_wn (hd : m.dig.length = 32) : (msC m v)[51]? = some (.int .i64 m.oc.wn) := ms_end (j := 4) hd rfl
theorem ms_pr (hd : m.dig.length = 32) : (msC m v)[52]? = some (.int .u64 (m.oc.pr : Int)) := ms_end (j := 5) hd rfl
theorem ms_oc {j : Nat} {x : Value} (hd : m.dig.length = 32) (h : (ocC m.oc)[j]? = some x) : (msC m v)[50 + j]? = some x := by
 have := ms_end (v := v) (j := 3 + j) hd (x := x) (by rw [show 3 + j = j + 1 + 1 + 1 by omega]; simpa using h)
 rwa [show 47 + (3 + j) = 50 + j by omega] at this
end Go.Proofs.Ytpefdmkfmcjfnaa.Ms
namespace Go.Proofs.Ytpefdmkfmcjfnaa.Part
open Go.RowKit Go.Sort Go.Proofs.Ytpefdmkfmcjfnaa.Mem Go.Proofs.Ytpefdmkfmcjfnaa.Oct
set_option linter.unusedVariables false
variable {P : Program}
theorem run_load_part (w : World) (g off : Nat) (ty : TypeId) (cs : List Value) (d : TypeDesc) (hc : ∀ j v, cs[j]? = some v → w.cell? ⟨g, off + j, none⟩ = some v)
 (hu : P.underlying ty = some d) (hd : (match d with | .struct _ | .array _ _ => true | _ => false) = true) (hi : (P.info? ty).map (·.size) = some cs.length) :
 (loadVar ty ⟨g, off, none⟩).run P w = .ok (.agg cs.toArray) w := by
 have hl : (loadCells ⟨g, off, none⟩ cs.length).run P w = .ok cs.toArray w :=
  run_loadCells_list (P := P) w ⟨g, off, none⟩ cs (fun j v hv => by
   have hadd : (⟨g, off, none⟩ : Addr).add j = ⟨g, off + j, none⟩ := by unfold Addr.add; split <;> simp_all
   rw [hadd]
   exact hc j v hv)
 cases hq : P.info? ty with
 | none => simp [hq] at hi
 | some i =>
  have hs : i.size = cs.length := by simpa [hq] using hi
  have hagg : (isAgg ty).run P w = .ok true w := by
   unfold isAgg
   rw [Sem.run_bind, run_underlying hu w]
   cases d <;> simp_all
  simp [loadVar, Sem.run_bind, hagg, sizeOf, typeInfo, hq, hs, hl]
theorem wp_load_part {o : Oper} {a : Act} {w : World} {K : Act → World → Prop} {Q : Exit → Act → World → Prop} (ty : TypeId) (x : Operand) (ho : o.op = .load ty x)
 (g off : Nat) (hx : a.eval x = .pointer (some ⟨g, off, none⟩)) (cs : List Value) (hc : ∀ j v, cs[j]? = some v → w.cell? ⟨g, off + j, none⟩ = some v) (d : TypeDesc)
 (hu : P.underlying ty = some d) (hd : (match d with | .struct _ | .array _ _ => true | _ => false) = true) (hi : (P.info? ty).map (·.size) = some cs.length)
 (h : K (a.put o.dst (.agg cs.toArray)) w) : o.wp P a w K Q := by
 unfold Oper.wp execOp
 simp only [ho, hx, Instr.loadAt, Instr.sureAddr, Sem.run_bind, Sem.run_pure, Result.andThen_ok, run_load_part w g off ty cs d hc hu hd hi]
 exact h
theorem wpList_load_part {ops : Array Oper} {rest : List Oper} {o : Oper} {a : Act} {w : World} {Q : Exit → Act → World → Prop} (hgd : o.guard = none) (ty : TypeId) (x : Operand) (ho : o.op = .load ty x)
 (g off : Nat) (hx : a.eval x = .pointer (some ⟨g, off, none⟩)) (cs : List Value) (hc : ∀ j v, cs[j]? = some v → w.cell? ⟨g, off + j, none⟩ = some v) (d : TypeDesc)
 (hu : P.underlying ty = some d) (hd : (match d with | .struct _ | .array _ _ => true | _ => false) = true) (hi : (P.info? ty).map (·.size) = some cs.length)
 (h : wpList P ops Q rest (a.put o.dst (.agg cs.toArray)) w) : wpList P ops Q (o :: rest) a w :=
 wpList_plain hgd fun _ hK => wp_load_part ty x ho g off hx cs hc d hu hd hi (hK _ _ h)
def putL (cs : List Value) (o : Nat) (vs : List Value) : List Value := cs.take o ++ vs ++ cs.drop (o + vs.length)
theorem run_store_part (w : World) (g off : Nat) (t ty : TypeId) (old : List Value) (cells : List Value) (hg : w.heap[g]? = some (.cells old.toArray t (0, 0))) (hi : (P.info? ty).map (·.size) = some cells.length)
 (ho : off + cells.length ≤ old.length) (h1 : ∀ v ∈ cells, v.oneCell' = true) :
 (storeVar ty ⟨g, off, none⟩ (.agg cells.toArray)).run P w = .ok () (w.setRow g (putL old off cells).toArray) := by
 have := run_storeCells_at P g off t cells 0 old.toArray w hg (by simpa using ho) h1
 cases hq : P.info? ty with
 | none => simp [hq] at hi
 | some i =>
  have hs : cells.length = i.size := by simp [hq] at hi; omega
  simp at this
  simp [storeVar, sizeOf, typeInfo, hq, Value.cells, hs, this, putL]
theorem wp_store_part {o : Oper} {a : Act} {w : World} {K : Act → World → Prop} {Q : Exit → Act → World → Prop} (ty : TypeId) (x y : Operand) (ho : o.op = .store ty x y)
 (g off : Nat) (cells : List Value) (hx : a.eval x = .pointer (some ⟨g, off, none⟩)) (hy : a.eval y = .agg cells.toArray)
 (t : TypeId) (old : List Value) (hg : w.heap[g]? = some (.cells old.toArray t (0, 0))) (hi : (P.info? ty).map (·.size) = some cells.length)
 (hold : off + cells.length ≤ old.length) (h1 : ∀ v ∈ cells, v.oneCell' = true)
 (h : K (a.put o.dst undef) (w.setRow g (putL old off cells).toArray)) : o.wp P a w K Q := by
 unfold Oper.wp execOp
 simp only [ho, hx, hy, Instr.storeAt, Instr.sureAddr, Sem.run_bind, Sem.run_pure, Result.andThen_ok, run_store_part w g off t ty old cells hg hi hold h1]
 exact h
theorem wpList_store_part {ops : Array Oper} {rest : List Oper} {o : Oper} {a : Act} {w : World} {Q : Exit → Act → World → Prop} (hgd : o.guard = none) (ty : TypeId) (x y : Operand) (ho : o.op = .store ty x y)
 (g off : Nat) (cells : List Value) (hx : a.eval x = .pointer (some ⟨g, off, none⟩)) (hy : a.eval y = .agg cells.toArray)
 (t : TypeId) (old : List Value) (hg : w.heap[g]? = some (.cells old.toArray t (0, 0))) (hi : (P.info? ty).map (·.size) = some cells.length)
 (hold : off + cells.length ≤ old.length) (h1 : ∀ v ∈ cells, v.oneCell' = true)
 (h : wpList P ops Q rest (a.put o.dst undef) (w.setRow g (putL old off cells).toArray)) : wpList P ops Q (o :: rest) a w :=
 wpList_plain hgd fun _ hK => wp_store_part ty x y ho g off cells hx hy t old hg hi hold h1 (hK _ _ h)
section
variable {w v : World} {g : Nat} {t : TypeId} {cs : List Value}
theorem ret_array {fn : Func} {a : Act} {p : Tmp} {ty : TypeId} (h : fn.results = #[.cell p ty]) (hp : a.tmps.getD p undef = .pointer (some ⟨g, 0, none⟩)) (hA : AtL w g t cs) (d : TypeDesc)
 (hu : P.underlying ty = some d) (hd : (match d with | .struct _ | .array _ _ => true | _ => false) = true) (hi : (P.info? ty).map (·.size) = some cs.length) :
 (results fn a.tmps).run P w = .ok (.agg cs.toArray) w := results_cell_row h _ w g t cs.toArray (0, 0) d hp hA hu hd (by simpa using hi)
end
theorem wpQuiet_load_part_w {ops : Array Oper} {C : World → Prop} {Q : Act → Prop} {a : Act} {o : Oper} {rest : List Oper} (hgd : Region.wanted o (yielded ops a.tmps) = true) (ty : TypeId) (x : Operand) (ho : o.op = .load ty x)
 (g off : Nat) (hx : a.eval x = .pointer (some ⟨g, off, none⟩)) (cs : List Value) (hc : ∀ w, C w → ∀ j v, cs[j]? = some v → w.cell? ⟨g, off + j, none⟩ = some v) (d : TypeDesc)
 (hu : P.underlying ty = some d) (hd : (match d with | .struct _ | .array _ _ => true | _ => false) = true) (hi : (P.info? ty).map (·.size) = some cs.length)
 (h : wpQuiet P ops C Q rest (a.put o.dst (.agg cs.toArray))) : wpQuiet P ops C Q (o :: rest) a := by
 refine BigFrame.wpQuiet_want hgd fun K hK => ⟨.agg cs.toArray, fun w hw => ?_, hK _ h⟩
 unfold Oper.quietAt execOp
 simp only [ho, hx, Instr.loadAt, Instr.sureAddr, Sem.run_bind, Sem.run_pure, Result.andThen_ok, run_load_part w g off ty cs d (hc w hw) hu hd hi]
 exact ⟨rfl, rfl⟩
theorem wpList_load_part_w {ops : Array Oper} {rest : List Oper} {o : Oper} {a : Act} {w : World} {Q : Exit → Act → World → Prop} (hgd : Region.wanted o (yielded ops a.tmps) = true) (ty : TypeId) (x : Operand) (ho : o.op = .load ty x)
 (g off : Nat) (hx : a.eval x = .pointer (some ⟨g, off, none⟩)) (cs : List Value) (hc : ∀ j v, cs[j]? = some v → w.cell? ⟨g, off + j, none⟩ = some v) (d : TypeDesc)
 (hu : P.underlying ty = some d) (hd : (match d with | .struct _ | .array _ _ => true | _ => false) = true) (hi : (P.info? ty).map (·.size) = some cs.length)
 (h : wpList P ops Q rest (a.put o.dst (.agg cs.toArray)) w) : wpList P ops Q (o :: rest) a w :=
 BigFrame.wpList_want hgd fun _ hK => wp_load_part ty x ho g off hx cs hc d hu hd hi (hK _ _ h)
theorem wpList_built2 {ops : Array Oper} {rest : List Oper} {o : Oper} {a : Act} {w : World} {Q : Exit → Act → World → Prop} (hg : o.guard = none) (t : TypeId) (i j : Nat) (x y : Operand) (ho : o.op = .build t #[(i, x), (j, y)]) (v u : Value) (hx : a.eval x = v) (hy : a.eval y = u) (cells : Array Value)
 (hb : P.built t [(i, v), (j, u)] = some cells) (h : wpList P ops Q rest (a.put o.dst (.agg cells)) w) : wpList P ops Q (o :: rest) a w := by
 subst hx hy
 have hb' : P.built t ((#[(i, x), (j, y)] : Array (Nat × Operand)).map fun (i, x) => (i, a.eval x)).toList = some cells := by simpa using hb
 exact wpList_build hg t _ ho (by rw [hb']; rfl) (by rw [hb']; exact h)
theorem put_all {old cs : List Value} (h : cs.length = old.length) : putL old 0 cs = cs := by simp [putL, h]
end Go.Proofs.Ytpefdmkfmcjfnaa.Part

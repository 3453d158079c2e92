/-
  One round of a block, as the program's numbers; the listed variables first and constants. No walk here.
-/
import Derived.Test.YtkailfajemeeaaaDoorShaArr
import Derived.Test.YtkailfajemeeaaaDoorRows
import Derived.Lib.Hide
namespace Go.Proofs.YtkailfajemeeaaaDoor.Sha
open Go.RowKit Go.Proofs.YtkailfajemeeaaaDoor.Mem
set_option linter.unusedVariables false

/-- A state's words, as cells. -/
def stL (s : St8) : List Value := [u32V s.a, u32V s.b, u32V s.c, u32V s.d, u32V s.e, u32V s.f, u32V s.g, u32V s.h]
theorem stL_length (s : St8) : (stL s).length = 8 := rfl
theorem stL_one {s : St8} : ∀ v ∈ stL s, v.oneCell' = true := by
  intro v hv
  simp only [stL, List.mem_cons, List.not_mem_nil, or_false] at hv
  rcases hv with rfl | rfl | rfl | rfl | rfl | rfl | rfl | rfl <;> rfl

/-- What one round makes, step by step, as the program's numbers. -/
structure RoundN (x : St8) (k w : Wd) (P6 P11 P25 Q1 S1 T1 EF NE NG CH T2 T3 T4 P2 P13 P22 Q2 S0 AB AC Q3 BC MJ T5 D1 A1 : Nat) : Prop where
  p6 : (rotr x.e 6).toNat = P6
  p11 : (rotr x.e 11).toNat = P11
  p25 : (rotr x.e 25).toNat = P25
  q1 : bits .xor .u32 (P6 : Int) (P11 : Int) = (Q1 : Int)
  s1 : bits .xor .u32 (Q1 : Int) (P25 : Int) = (S1 : Int)
  t1 : ((x.h.toNat : Int) + (S1 : Int)) % 4294967296 = (T1 : Int)
  ef : bits .and .u32 (x.e.toNat : Int) (x.f.toNat : Int) = (EF : Int)
  ne : bits .xor .u32 4294967295 (x.e.toNat : Int) = (NE : Int)
  ng : bits .and .u32 (NE : Int) (x.g.toNat : Int) = (NG : Int)
  ch : bits .xor .u32 (EF : Int) (NG : Int) = (CH : Int)
  t2 : ((T1 : Int) + (CH : Int)) % 4294967296 = (T2 : Int)
  t3 : ((T2 : Int) + (k.toNat : Int)) % 4294967296 = (T3 : Int)
  t4 : ((T3 : Int) + (w.toNat : Int)) % 4294967296 = (T4 : Int)
  p2 : (rotr x.a 2).toNat = P2
  p13 : (rotr x.a 13).toNat = P13
  p22 : (rotr x.a 22).toNat = P22
  q2 : bits .xor .u32 (P2 : Int) (P13 : Int) = (Q2 : Int)
  s0 : bits .xor .u32 (Q2 : Int) (P22 : Int) = (S0 : Int)
  ab : bits .and .u32 (x.a.toNat : Int) (x.b.toNat : Int) = (AB : Int)
  ac : bits .and .u32 (x.a.toNat : Int) (x.c.toNat : Int) = (AC : Int)
  q3 : bits .xor .u32 (AB : Int) (AC : Int) = (Q3 : Int)
  bc : bits .and .u32 (x.b.toNat : Int) (x.c.toNat : Int) = (BC : Int)
  mj : bits .xor .u32 (Q3 : Int) (BC : Int) = (MJ : Int)
  t5 : ((S0 : Int) + (MJ : Int)) % 4294967296 = (T5 : Int)
  d1 : ((x.d.toNat : Int) + (T4 : Int)) % 4294967296 = (D1 : Int)
  a1 : ((T4 : Int) + (T5 : Int)) % 4294967296 = (A1 : Int)
  ra : (round1 x k w).a.toNat = A1
  re : (round1 x k w).e.toNat = D1

theorem round_facts (x : St8) (k w : Wd) : ∃ P6 P11 P25 Q1 S1 T1 EF NE NG CH T2 T3 T4 P2 P13 P22 Q2 S0 AB AC Q3 BC MJ T5 D1 A1 : Nat, RoundN x k w P6 P11 P25 Q1 S1 T1 EF NE NG CH T2 T3 T4 P2 P13 P22 Q2 S0 AB AC Q3 BC MJ T5 D1 A1 :=
  ⟨_, _, _, _, _, _, _, _, _, _, _, _, _, _, _, _, _, _, _, _, _, _, _, _, _, _, {
    p6 := rfl, p11 := rfl, p25 := rfl, q1 := wd_xor _ _, s1 := wd_xor _ _, t1 := wd_addm _ _, ef := wd_and _ _, ne := wd_not _, ng := wd_and _ _, ch := wd_xor _ _, t2 := wd_addm _ _, t3 := wd_addm _ _, t4 := wd_addm _ _,
    p2 := rfl, p13 := rfl, p22 := rfl, q2 := wd_xor _ _, s0 := wd_xor _ _, ab := wd_and _ _, ac := wd_and _ _, q3 := wd_xor _ _, bc := wd_and _ _, mj := wd_xor _ _, t5 := wd_addm _ _, d1 := wd_addm _ _, a1 := wd_addm _ _, ra := rfl, re := rfl }⟩

/-- The listed variables hold the constants. -/
structure Sg (w : World) : Prop where
  hs : ∀ i x, hT[i]? = some x → w.cell? ⟨0, i, none⟩ = some (u32V x)
  ks : ∀ i x, kT[i]? = some x → w.cell? ⟨1, i, none⟩ = some (u32V x)
theorem Sg.posh {w : World} (h : Sg w) : 0 < w.heap.size := block_lt_of_cell (h.hs 0 _ rfl)
theorem Sg.posk {w : World} (h : Sg w) : 1 < w.heap.size := block_lt_of_cell (h.ks 0 _ rfl)
theorem Sg.keep {B : Nat} {w v : World} (h : Sg w) (hb : Below B w v) (h1 : 0 < B) (h2 : 1 < B) : Sg v :=
  ⟨fun i x hx => (hb.cell (p := ⟨0, i, none⟩) h1).trans (h.hs i x hx), fun i x hx => (hb.cell (p := ⟨1, i, none⟩) h2).trans (h.ks i x hx)⟩
theorem Sg.on {w v : World} (h : Sg w) (hb : Below w.heap.size w v) : Sg v := h.keep hb h.posh h.posk
theorem Sg.same {w v : World} (h : Sg w) (h1 : v.heap[0]? = w.heap[0]?) (h2 : v.heap[1]? = w.heap[1]?) : Sg v :=
  ⟨fun i x hx => (by have := h.hs i x hx; simp only [World.cell?] at this ⊢; rw [h1]; exact this), fun i x hx => (by have := h.ks i x hx; simp only [World.cell?] at this ⊢; rw [h2]; exact this)⟩

end Go.Proofs.YtkailfajemeeaaaDoor.Sha

/-
  Contract of a draft's Scene: what is drawn may be, and lies in rows of its own.
-/
import Derived.Test.YtlkijbakfoabaaaDoorDraftLay
import Derived.Test.YtlkijbakfoabaaaDoorFloat
namespace Go.Proofs.YtlkijbakfoabaaaDoor.Scene
open Go.RowKit Go.Sort Go.Proofs.YtlkijbakfoabaaaDoor.Mem Go.Proofs.YtlkijbakfoabaaaDoor.Float
set_option linter.unusedVariables false

theorem info_rqD : (Tryd.prog.info? 66).map (fun i => (i.zero, i.size, i.bytes)) = some (some (.agg #[.int .i64 0, .int .i64 0, .int .i64 0, .int .i64 0, .int .i64 0, .int .i64 0, .int .i64 0, .int .i64 0, .int .i64 0, .int .i64 0]), 10, 80) := by kernel_rfl
theorem info_vhD : (Tryd.prog.info? 57).map (fun i => (i.zero, i.size, i.bytes)) = some (some (.agg #[.int .i64 0, .int .i64 0, .int .i64 0, .int .i64 0, .int .i64 0]), 5, 40) := by kernel_rfl
theorem info_ltD : (Tryd.prog.info? 59).map (fun i => (i.zero, i.size, i.bytes)) = some (some (.agg #[.int .i64 0, .int .i64 0]), 2, 16) := by kernel_rfl
theorem info_inD : (Tryd.prog.info? 3).map (fun i => (i.zero, i.size, i.bytes)) = some (some (.int .i64 0), 1, 8) := by kernel_rfl
theorem info_crD : (Tryd.prog.info? 53).map (fun i => (i.zero, i.size, i.bytes)) = some (some (.agg #[.slice none 0 0, .slice none 0 0]), 2, 48) := by kernel_rfl
theorem info_uD : (Tryd.prog.info? 74).map (fun i => (i.zero, i.size, i.bytes)) = some (some (.int .u64 0), 1, 8) := by kernel_rfl
theorem info_duD : (Tryd.prog.info? 73).map (fun i => (i.zero, i.size, i.bytes)) = some (some (.slice none 0 0), 1, 24) := by kernel_rfl
def V7 (g q N : Nat) (vR : Value) : Nat → Value → World → Prop
  | 0, y, W => y = .pointer (some ⟨q, 0, none⟩)
  | 1, y, W => y = vR
  | 2, y, W => y = .pointer (some ⟨g, 0, none⟩)
  | 3, y, W => ∃ x z : Int, y = .agg #[.int .i64 x, .int .i64 z] ∧ (500 ≤ x ∧ x < 530) ∧ 500 ≤ z ∧ z < 530
  | 4, y, W => y = .pointer (some ⟨g, 0, none⟩)
  | 5, y, W => ∃ x z : Int, y = .agg #[.int .i64 x, .int .i64 z] ∧ (500 ≤ x ∧ x < 530) ∧ 500 ≤ z ∧ z < 530
  | 6, y, W => y = .pointer (some ⟨g, 0, none⟩)
  | 7, y, W => ∃ r s : Int, y = .agg #[.int .i64 (4 * r), .int .i64 (4 * r + 10 + 3 * s)] ∧ (0 ≤ r ∧ r < 60) ∧ 0 ≤ s ∧ s < 120
  | 8, y, W => y = .pointer (some ⟨g, 0, none⟩)
  | 9, y, W => ∃ r s : Int, y = .agg #[.int .i64 (40 + 4 * r), .int .i64 (40 + 4 * r + 10 + 3 * s)] ∧ (0 ≤ r ∧ r < 80) ∧ 0 ≤ s ∧ s < 120
  | 10, y, W => y = .pointer (some ⟨g, 0, none⟩)
  | 11, y, W => ∃ r : Int, y = .int .i64 r ∧ 0 ≤ r ∧ r < 9
  | 12, y, W => ∃ r : Int, y = .int .i64 r ∧ 1 ≤ r ∧ r < 10
  | 13, y, W => y = .pointer (some ⟨g, 0, none⟩)
  | 14, y, W => ∃ r : Int, y = .int .i64 r ∧ 0 ≤ r ∧ r < 5
  | 15, y, W => ∃ q : Rq, y = .agg #[.int .i64 q.fx, .int .i64 q.fy, .int .i64 q.tx, .int .i64 q.ty, .int .i64 q.pe, .int .i64 q.pl, .int .i64 q.de, .int .i64 q.dl, .int .i64 q.ld, .int .i64 q.sv] ∧ q.chk = 0
  | 16, y, W => ∃ (g1 : Nat) (q : Rq), y = .slice (some ⟨g1, 0, none⟩) 1 1 ∧ N ≤ g1 ∧ At W g1 66 #[.int .i64 q.fx, .int .i64 q.fy, .int .i64 q.tx, .int .i64 q.ty, .int .i64 q.pe, .int .i64 q.pl, .int .i64 q.de, .int .i64 q.dl, .int .i64 q.ld, .int .i64 q.sv] ∧ q.chk = 0
  | _, _, _ => True
theorem V7.keep {g q N : Nat} {vR : Value} {i : Nat} {v : Value} {W V : World} (h : V7 g q N vR i v W) (hN : g < N) (hg : W.grownBy V (some g)) : V7 g q N vR i v V := by
  match i with
  | 0 => exact h
  | 1 => exact h
  | 2 => exact h
  | 3 => exact h
  | 4 => exact h
  | 5 => exact h
  | 6 => exact h
  | 7 => exact h
  | 8 => exact h
  | 9 => exact h
  | 10 => exact h
  | 11 => exact h
  | 12 => exact h
  | 13 => exact h
  | 14 => exact h
  | 15 => exact h
  | 16 =>
    obtain ⟨g1, q1, e, h1, h2, h3⟩ := h
    exact ⟨g1, q1, e, h1, gAt h2 hg (fun e => by cases e; omega), h3⟩
  | i + 17 => trivial
def V15d (g q N : Nat) (vR : Value) : Nat → Value → World → Prop
  | 0, y, W => y = .pointer (some ⟨q, 0, none⟩)
  | 1, y, W => y = vR
  | 2, y, W => y = .pointer (some ⟨g, 0, none⟩)
  | 3, y, W => ∃ x z : Int, y = .agg #[.int .i64 x, .int .i64 z] ∧ (500 ≤ x ∧ x < 530) ∧ 500 ≤ z ∧ z < 530
  | 4, y, W => y = .pointer (some ⟨g, 0, none⟩)
  | 5, y, W => ∃ r : Int, y = .int .i64 r ∧ 0 ≤ r ∧ r < 20
  | 6, y, W => ∃ r : Int, y = .int .i64 (5 + r) ∧ 0 ≤ r ∧ r < 20
  | 7, y, W => y = .pointer (some ⟨g, 0, none⟩)
  | 8, y, W => ∃ r : Int, y = .int .i64 r ∧ 0 ≤ r ∧ r < 20
  | 9, y, W => y = .pointer (some ⟨g, 0, none⟩)
  | 10, y, W => ∃ r : Int, y = .int .i64 r ∧ 0 ≤ r ∧ r < 120
  | 11, y, W => ∃ r : Int, y = .int .i64 (5 * r) ∧ 0 ≤ r ∧ r < 120
  | 12, y, W => ∃ r : Int, y = .int .i64 (400 + 5 * r) ∧ 0 ≤ r ∧ r < 120
  | 13, y, W => ∃ q : Vh, y = .agg #[.int .i64 q.hx, .int .i64 q.hy, .int .i64 q.cp, .int .i64 q.st, .int .i64 q.en] ∧ q.chk = 0
  | 14, y, W => ∃ (g1 : Nat) (q : Vh), y = .slice (some ⟨g1, 0, none⟩) 1 1 ∧ N ≤ g1 ∧ At W g1 57 #[.int .i64 q.hx, .int .i64 q.hy, .int .i64 q.cp, .int .i64 q.st, .int .i64 q.en] ∧ q.chk = 0
  | _, _, _ => True
theorem V15d.keep {g q N : Nat} {vR : Value} {i : Nat} {v : Value} {W V : World} (h : V15d g q N vR i v W) (hN : g < N) (hg : W.grownBy V (some g)) : V15d g q N vR i v V := by
  match i with
  | 0 => exact h
  | 1 => exact h
  | 2 => exact h
  | 3 => exact h
  | 4 => exact h
  | 5 => exact h
  | 6 => exact h
  | 7 => exact h
  | 8 => exact h
  | 9 => exact h
  | 10 => exact h
  | 11 => exact h
  | 12 => exact h
  | 13 => exact h
  | 14 =>
    obtain ⟨g1, q1, e, h1, h2, h3⟩ := h
    exact ⟨g1, q1, e, h1, gAt h2 hg (fun e => by cases e; omega), h3⟩
  | i + 15 => trivial
def V29 (g q N : Nat) (vR : Value) (i : Int) : Nat → Value → World → Prop
  | 0, y, W => y = .pointer (some ⟨q, 2, none⟩)
  | 1, y, W => y = vR
  | 2, y, W => y = .int .i64 i
  | 3, y, W => y = .pointer (some ⟨g, 0, none⟩)
  | 4, y, W => ∃ r : Int, y = .int .i64 r ∧ 0 ≤ r ∧ r < 250
  | 5, y, W => ∃ q : Lt, y = .agg #[.int .i64 q.req, .int .i64 q.res] ∧ q.req = i ∧ 0 ≤ q.res ∧ q.res < 250
  | 6, y, W => ∃ (g1 : Nat) (q : Lt), y = .slice (some ⟨g1, 0, none⟩) 1 1 ∧ N ≤ g1 ∧ At W g1 59 #[.int .i64 q.req, .int .i64 q.res] ∧ q.req = i ∧ 0 ≤ q.res ∧ q.res < 250
  | _, _, _ => True
theorem V29.keep {g q N : Nat} {vR : Value} {n : Int} {i : Nat} {v : Value} {W V : World} (h : V29 g q N vR n i v W) (hN : g < N) (hg : W.grownBy V (some g)) : V29 g q N vR n i v V := by
  match i with
  | 0 => exact h
  | 1 => exact h
  | 2 => exact h
  | 3 => exact h
  | 4 => exact h
  | 5 => exact h
  | 6 =>
    obtain ⟨g1, q1, e, h1, h2, h3⟩ := h
    exact ⟨g1, q1, e, h1, gAt h2 hg (fun e => by cases e; omega), h3⟩
  | i + 7 => trivial

def V27 (q gC n cap t r N : Nat) (own : Value) : Nat → Value → World → Prop
  | 0, y, _ => y = .pointer (some ⟨q, 1, none⟩)
  | 1, y, _ => y = .slice (some ⟨gC, 0, none⟩) n cap
  | 2, y, _ => y = .int .i64 (t : Int)
  | 3, y, _ => y = .pointer (some ⟨q, 1, none⟩)
  | 4, y, _ => y = .slice (some ⟨gC, 0, none⟩) n cap
  | 5, y, _ => y = .int .i64 (t : Int)
  | 6, y, _ => y = .pointer (some ⟨gC, t * 2, none⟩)
  | 7, y, _ => y = .pointer (some ⟨gC, t * 2 + 1, none⟩)
  | 8, y, _ => y = own
  | 9, y, _ => y = .int .i64 (r : Int)
  | 10, y, W => ∃ g1 : Nat, y = .slice (some ⟨g1, 0, none⟩) 1 1 ∧ N ≤ g1 ∧ At W g1 3 #[.int .i64 (r : Int)]
  | _, _, _ => True
theorem V27.keep {q gC n cap t r N : Nat} {own : Value} (hN : ∀ b, own.ownBlock = some b → b < N) {i : Nat} {v : Value} {W V : World} (h : V27 q gC n cap t r N own i v W) (hg : W.grownBy V own.ownBlock) : V27 q gC n cap t r N own i v V := by
  match i with
  | 0 | 1 | 2 | 3 | 4 | 5 | 6 | 7 | 8 | 9 => exact h
  | 10 =>
    obtain ⟨g, e, h1, h2⟩ := h
    exact ⟨g, e, h1, gAt h2 hg (fun e => by have := hN g e.symm; omega)⟩
  | i + 11 => trivial
def Z27 (B N : Nat) (own : Value) (xs : List Int) (r : Nat) (done : Nat → Bool) (ys : Nat → Value) (W : World) : Prop :=
  (done 11 = false → W.ownsRow B 3 1 own xs.length (flatI xs)) ∧
  (done 11 = true → W.ownsRow B 3 1 (ys 11) (xs.length + 1) (flatI xs ++ [.int .i64 (r : Int)]) ∧ ((ys 11).ownBlock = own.ownBlock ∨ ∃ b, (ys 11).ownBlock = some b ∧ N ≤ b))
theorem upd_eqD {ys : Nat → Value} {k : Nat} {v : Value} : Sched.upd ys k v k = v := by simp [Sched.upd]
theorem Z27.light {B N i r : Nat} {own : Value} {xs : List Int} {done : Nat → Bool} {ys : Nat → Value} {W : World} {v : Value} (h : Z27 B N own xs r done ys W) (hi : i ≠ 11) : Z27 B N own xs r (Sched.mark done i) (Sched.upd ys i v) W := by
  have e1 : Sched.mark done i 11 = done 11 := if_neg (fun e => hi e.symm)
  have e2 : Sched.upd ys i v 11 = ys 11 := by simp [Sched.upd, show ¬ 11 = i from fun e => hi e.symm]
  exact ⟨fun hd => h.1 (by rw [← e1]; exact hd), fun hd => by rw [e2]; exact h.2 (by rw [← e1]; exact hd)⟩
theorem Z27.alloc {B N r : Nat} {own : Value} {xs : List Int} {done : Nat → Bool} {ys : Nat → Value} {W : World} (h : Z27 B N own xs r done ys W) (o : Obj) : Z27 B N own xs r done ys (W.alloc o) := ⟨fun hd => (h.1 hd).alloc o, fun hd => ⟨(h.2 hd).1.alloc o, (h.2 hd).2⟩⟩
theorem gDrew (W : World) (row : Option Nat) : W.grownBy { W with drawn := W.drawn + 1 } row := ⟨rfl, rfl, rfl, Nat.le_refl _, fun _ _ _ => rfl⟩
theorem DraftAt.drewN {W : World} {g : Nat} {sv : Value} {bs : List Int} {a b c k : Int} (h : DraftAt W g sv bs a b c k) : DraftAt { W with drawn := W.drawn + 1 } g sv bs a b c k := h.grown (gDrew W none) (fun x e => by cases e)
theorem DraftAt.put {W : World} {g : Nat} {sv : Value} {bs : List Int} {a b c k : Int} (h : DraftAt W g sv bs a b c k) (v : Int) : DraftAt (W.setCell ⟨g, 4, none⟩ (.int .i64 v)) g sv bs a b c v :=
  ⟨by simpa using h.box.put 4 (.int .i64 v), h.row.keep ((Below.refl g W).grown (put_grown W g 4 _) (Nat.le_of_lt h.box.inside) (fun x e => by cases e; exact Nat.le_refl _)) (Nat.le_refl _), h.byte⟩

set_option maxRecDepth 100000 in
set_option maxHeartbeats 4000000 in
theorem draft_any (w : World) (g : Nat) (sv : Value) (bs : List Int) (a b c k0 : Int) (h : DraftAt w g sv bs a b c k0) (ha : 0 ≤ a ∧ a < 256) (hb : 0 ≤ b ∧ b < 256) (hc : 0 ≤ c ∧ c < 256) :
    Calls Tryd.prog 7 #[.pointer (some ⟨g, 0, none⟩)] w fun e w' =>
      ∃ vR vC vL vD us s k, e = .returned (.agg #[vR, vC, vL, .int .i64 s.cm, .int .i64 s.rv, .int .i64 s.sch, vD]) ∧ SceneAt w'.heap.size w' vR vC vL vD us s ∧
        ((∃ ds : List Value, ds.length = s.draws ∧ RowB w'.heap.size w' vD 1 (ds.map fun d => [d]) ∧ ∀ d ∈ ds, d.oneCell' = true) ∧ Plain vR ∧ Plain vL ∧ ∀ u ∈ us, Plain u.1 ∧ Plain u.2) ∧ Drawn s ∧ DraftAt w' g sv bs a b c k ∧ w.grownBy w' (some g) := by
  have hgw := h.box.inside
  have p4 := h.box.cell 4
  simp at p4
  have f4 := h.box.free 4
  have hb1 : Base w g sv bs a b c ((w.setCell ⟨g, 4, none⟩ (.int .i64 0)).alloc (.cells #[.slice none 0 0, .slice none 0 0, .slice none 0 0, .int .i64 0, .int .i64 0, .int .i64 0, .slice none 0 0] 33)) 0 :=
    ⟨(h.put 0).alloc _, At.new_ _ _ _ (by simp), (put_grown w g 4 _).trans (World.grownBy_alloc _ _ _), hgw⟩
  go_enter Tryd.func7, Tryd.ntmps7
  go_upto_region 2 with fail
  obtain ⟨w1, hw1⟩ : ∃ w1, (w.setCell ⟨g, 4, none⟩ (.int .i64 0)).alloc (.cells #[.slice none 0 0, .slice none 0 0, .slice none 0 0, .int .i64 0, .int .i64 0, .int .i64 0, .slice none 0 0] 33) = w1 := ⟨_, rfl⟩
  rw [hw1] at hb1 ⊢
  clear hw1 p4 f4 h
  refine wp_region_float1 26 3 (.cells #[.slice none 0 0, .slice none 0 0, .slice none 0 0, .int .i64 0, .int .i64 0, .int .i64 0, .slice none 0 0] 33) ?af (by kernel_rfl) (by kernel_rfl) (by kernel_rfl) ?hL ?hW ?hT
  case hL =>
    intro o ho a wz
    have ho' := (Option.some.inj ho).symm
    subst ho'
    simp only [ptr]
    go_simp
  case hW =>
    intro w0 hw0
    have hP0 := hb1.dr.box.keep hw0 hb1.dr.box.inside
    have c3 := hP0.cell 3
    simp at c3
    have kc3 := cell_regrown c3
    simp only [List.take_succ_cons, List.take_zero]
    repeat (go_big_quiet_step (fail))
    refine wpQuiet_nil ?_
    rfl
  case hT =>
    intro q w2 hq hob hb2
    have hN : At w2 q 33 #[.slice none 0 0, .slice none 0 0, .slice none 0 0, .int .i64 0, .int .i64 0, .int .i64 0, .slice none 0 0] := hob
    have hq1 : w.heap.size < q := Nat.lt_of_lt_of_le hb1.in hq
    have hb2' := hb1.grown (Below.grow hb2) (fun x e => by cases e)
    have n0 := hN.cell 0
    have n1 := hN.cell 1
    have n2 := hN.cell 2
    have n3 := hN.cell 3
    have n4 := hN.cell 4
    have n5 := hN.cell 5
    have n6 := hN.cell 6
    simp at n0 n1 n2 n3 n4 n5 n6
    have hf := hN.free
    simp only [List.drop_succ_cons, List.drop_zero]
    go_upto_region 3 with fail
    clear n0 n1 n2 n3 n4 n5 n6 hf
    generalize hw3 : ((((((w2.setCell ⟨q, 0, none⟩ (.slice none 0 0)).setCell ⟨q, 1, none⟩ (.slice none 0 0)).setCell ⟨q, 2, none⟩ (.slice none 0 0)).setCell ⟨q, 3, none⟩ (.int .i64 (1 + c % 5))).setCell ⟨q, 4, none⟩ (.int .i64 (1 + c / 5 % 5))).setCell ⟨q, 5, none⟩ (.int .i64 (c / 25 % 2))).setCell ⟨q, 6, none⟩ (.slice none 0 0) = w3
    have hbx : At w3 q 33 #[.slice none 0 0, .slice none 0 0, .slice none 0 0, .int .i64 (1 + c % 5), .int .i64 (1 + c / 5 % 5), .int .i64 (c / 25 % 2), .slice none 0 0] := by
      rw [← hw3]
      simpa using ((((((hN.put 0 (.slice none 0 0)).put 1 (.slice none 0 0)).put 2 (.slice none 0 0)).put 3 (.int .i64 (1 + c % 5))).put 4 (.int .i64 (1 + c / 5 % 5))).put 5 (.int .i64 (c / 25 % 2))).put 6 (.slice none 0 0)
    have hB3 : Base w g sv bs a b c w3 0 := by
      rw [← hw3]
      exact hb2'.grown (((((((put_grown _ _ _ _).trans (put_grown _ _ _ _)).trans (put_grown _ _ _ _)).trans (put_grown _ _ _ _)).trans (put_grown _ _ _ _)).trans (put_grown _ _ _ _)).trans (put_grown _ _ _ _)) (fun x e => by cases e; exact hq1)
    clear hw3 hb2' hb2 hq hN hob hb1
    obtain ⟨cm, hcm⟩ : ∃ cm, cm = 1 + c % 5 := ⟨_, rfl⟩
    obtain ⟨rv, hrv⟩ : ∃ rv, rv = 1 + c / 5 % 5 := ⟨_, rfl⟩
    obtain ⟨sch, hsch⟩ : ∃ sch, sch = c / 25 % 2 := ⟨_, rfl⟩
    have hterm : (1 ≤ cm ∧ cm ≤ 64) ∧ (1 ≤ rv ∧ rv ≤ 64) ∧ 0 ≤ sch ∧ sch ≤ 1 := by omega
    rw [← hcm, ← hrv, ← hsch] at hbx
    rw [← hcm, ← hrv, ← hsch]
    clear hcm hrv hsch
    have c1 := hB3.dr.box.cell 1
    have c2 := hB3.dr.box.cell 2
    simp at c1 c2
    obtain ⟨C, hC⟩ : ∃ C : Nat, 1 + a % 6 = C := ⟨(1 + a % 6).toNat, by omega⟩
    obtain ⟨R, hR⟩ : ∃ R : Nat, b % 13 = R := ⟨(b % 13).toNat, by omega⟩
    have hC1 : 1 ≤ C ∧ C ≤ 6 := by omega
    have hR1 : R ≤ 12 := by omega
    go_quiet (fail)

    replace hbx : At (w3.drewN nq) q 33 _ := hbx
    replace hB3 := hB3.grown (V := w3.drewN nq) (row := none) ⟨rfl, rfl, rfl, Nat.le_refl _, fun _ _ _ => rfl⟩ (fun x e => by cases e)
    generalize w3.drewN nq = w4 at *
    clear hC hR c1 c2 ha hb hc
    obtain ⟨iR, hiR, hR0, hRs, hRb⟩ := info_parts info_rqD
    go_wp2_with fail
    go_loopw [6] (fun v wr => ∃ (i : Nat) (k : Int) (vR : Value) (qs : List Rq), v = .int .i64 i ∧ i ≤ R ∧ qs.length = i ∧ (∀ x ∈ qs, x.chk = 0) ∧ 0 ≤ k ∧ k ≤ 10 * i ∧ Base w g sv bs a b c wr k ∧
      At wr q 33 #[vR, .slice none 0 0, .slice none 0 0, .int .i64 cm, .int .i64 rv, .int .i64 sch, .slice none 0 0] ∧ wr.ownsRow (q + 1) 66 10 vR i (flatR qs)) (fun v _ => R - (intOf v).toNat)
    case atStart => exact ⟨0, 0, _, [], rfl, Nat.zero_le _, rfl, fun x hx => (by cases hx), Int.le_refl _, by omega, hB3, hbx, World.ownsRow_nil _ _ _ _⟩
    case round =>
      obtain ⟨i, k, vR, qs, rfl, hi, hql, hqg, hk0, hk1, hBW, hbW, hown⟩ := hrel
      clear hB3 hbx
      have hgq : g < q := by omega
      by_cases hlt : i < R
      · go_upto_region 7 with fail
        refine Sched.wp_region_sched 17 (fun W W' => W.grownBy W' (some g)) (V7 g q wr.heap.size vR) (ZD g sv bs a b c k [(3, 2), (5, 2), (7, 2), (9, 2), (11, 1), (14, 1)]) (by kernel_rfl) (by kernel_rfl) (by kernel_rfl) (fun h1 h2 => h1.trans h2) (fun h1 h2 => V7.keep h1 (by have := hBW.in; omega) h2) (gDrew _ _) (fun ys => ZD.start (hBW.dr.drewN) ys) (Sched.StepsA.steps (by kernel_rfl) ?hS) ?hQ
        case hS =>
         simp only [List.take_succ_cons, List.take_zero]
         refine ⟨?_, ?_, ?_, ?_, ?_, ?_, ?_, ?_, ?_, ?_, ?_, ?_, ?_, ?_, ?_, ?_, ?_, trivial⟩
         · intro ys done W aa hE hn hF hD hZ hG hO
           replace hE : wr.grownBy W (some g) := hE
           have o1 := hO 3 (by kernel_rfl)
           replace o1 : aa.tmps[3]? = some (.pointer (some ⟨q, 0, none⟩)) := o1
           go_wp2_with fail
           exact ⟨_, rfl, gRefl _ _, rfl, hZ.light (by decide)⟩
         · intro ys done W aa hE hn hF hD hZ hG hO
           replace hE : wr.grownBy W (some g) := hE
           have v0 := hF 0 (by decide) (hD 0 (by kernel_rfl))
           replace v0 : ys 0 = .pointer (some ⟨q, 0, none⟩) := v0
           have g0 := hG 0 63 rfl (Nat.le_of_ble_eq_true rfl)
           rw [v0] at g0
           have p := (gAt hbW hE (by simp; omega)).cell 0
           simp at p
           go_wp2_with fail
           exact ⟨_, rfl, gRefl _ _, rfl, hZ.light (by decide)⟩
         · intro ys done W aa hE hn hF hD hZ hG hO
           replace hE : wr.grownBy W (some g) := hE
           have o1 := hO 0 (by kernel_rfl)
           replace o1 : aa.tmps[0]? = some (.pointer (some ⟨g, 0, none⟩)) := o1
           go_wp2_with fail
           exact ⟨_, rfl, gRefl _ _, rfl, hZ.light (by decide)⟩
         · intro ys done W aa hE hn hF hD hZ hG hO
           replace hE : wr.grownBy W (some g) := hE
           have v2 := hF 2 (by decide) (hD 2 (by kernel_rfl))
           replace v2 : ys 2 = .pointer (some ⟨g, 0, none⟩) := v2
           have g2 := hG 2 65 rfl (Nat.le_of_ble_eq_true rfl)
           rw [v2] at g2
           have hsd := sumD_bound (done := done) (ps := [(3, 2), (5, 2), (7, 2), (9, 2), (11, 1), (14, 1)]) (by decide)
           simp only [List.length_cons, List.length_nil] at hsd
           go_wp2_with fail
           refine (dplace_any _ g sv bs a b c _ hZ.draft (by omega)).mono ?_
           rintro e W' ⟨⟨x, z, rfl, hx, hz⟩, hd', hg'⟩
           go_wp2_with fail
           exact ⟨_, rfl, hg', ⟨x, z, rfl, hx, hz⟩, ZD.hit hn hd' (by decide) (by decide)⟩
         · intro ys done W aa hE hn hF hD hZ hG hO
           replace hE : wr.grownBy W (some g) := hE
           have o1 := hO 0 (by kernel_rfl)
           replace o1 : aa.tmps[0]? = some (.pointer (some ⟨g, 0, none⟩)) := o1
           go_wp2_with fail
           exact ⟨_, rfl, gRefl _ _, rfl, hZ.light (by decide)⟩
         · intro ys done W aa hE hn hF hD hZ hG hO
           replace hE : wr.grownBy W (some g) := hE
           have v4 := hF 4 (by decide) (hD 4 (by kernel_rfl))
           replace v4 : ys 4 = .pointer (some ⟨g, 0, none⟩) := v4
           have g4 := hG 4 67 rfl (Nat.le_of_ble_eq_true rfl)
           rw [v4] at g4
           have hsd := sumD_bound (done := done) (ps := [(3, 2), (5, 2), (7, 2), (9, 2), (11, 1), (14, 1)]) (by decide)
           simp only [List.length_cons, List.length_nil] at hsd
           go_wp2_with fail
           refine (dplace_any _ g sv bs a b c _ hZ.draft (by omega)).mono ?_
           rintro e W' ⟨⟨x, z, rfl, hx, hz⟩, hd', hg'⟩
           go_wp2_with fail
           exact ⟨_, rfl, hg', ⟨x, z, rfl, hx, hz⟩, ZD.hit hn hd' (by decide) (by decide)⟩
         · intro ys done W aa hE hn hF hD hZ hG hO
           replace hE : wr.grownBy W (some g) := hE
           have o1 := hO 0 (by kernel_rfl)
           replace o1 : aa.tmps[0]? = some (.pointer (some ⟨g, 0, none⟩)) := o1
           go_wp2_with fail
           exact ⟨_, rfl, gRefl _ _, rfl, hZ.light (by decide)⟩
         · intro ys done W aa hE hn hF hD hZ hG hO
           replace hE : wr.grownBy W (some g) := hE
           have v6 := hF 6 (by decide) (hD 6 (by kernel_rfl))
           replace v6 : ys 6 = .pointer (some ⟨g, 0, none⟩) := v6
           have g6 := hG 6 69 rfl (Nat.le_of_ble_eq_true rfl)
           rw [v6] at g6
           have hsd := sumD_bound (done := done) (ps := [(3, 2), (5, 2), (7, 2), (9, 2), (11, 1), (14, 1)]) (by decide)
           simp only [List.length_cons, List.length_nil] at hsd
           go_wp2_with fail
           refine (dwindow_any _ g sv bs a b c _ hZ.draft (by omega) 0 60 (by omega) (by omega)).mono ?_
           rintro e W' ⟨⟨x, z, rfl, hx, hz⟩, hd', hg'⟩
           go_wp2_with fail
           exact ⟨_, rfl, hg', ⟨x, z, rfl, hx, hz⟩, ZD.hit hn hd' (by decide) (by decide)⟩
         · intro ys done W aa hE hn hF hD hZ hG hO
           replace hE : wr.grownBy W (some g) := hE
           have o1 := hO 0 (by kernel_rfl)
           replace o1 : aa.tmps[0]? = some (.pointer (some ⟨g, 0, none⟩)) := o1
           go_wp2_with fail
           exact ⟨_, rfl, gRefl _ _, rfl, hZ.light (by decide)⟩
         · intro ys done W aa hE hn hF hD hZ hG hO
           replace hE : wr.grownBy W (some g) := hE
           have v8 := hF 8 (by decide) (hD 8 (by kernel_rfl))
           replace v8 : ys 8 = .pointer (some ⟨g, 0, none⟩) := v8
           have g8 := hG 8 71 rfl (Nat.le_of_ble_eq_true rfl)
           rw [v8] at g8
           have hsd := sumD_bound (done := done) (ps := [(3, 2), (5, 2), (7, 2), (9, 2), (11, 1), (14, 1)]) (by decide)
           simp only [List.length_cons, List.length_nil] at hsd
           go_wp2_with fail
           refine (dwindow_any _ g sv bs a b c _ hZ.draft (by omega) 40 80 (by omega) (by omega)).mono ?_
           rintro e W' ⟨⟨x, z, rfl, hx, hz⟩, hd', hg'⟩
           go_wp2_with fail
           exact ⟨_, rfl, hg', ⟨x, z, rfl, hx, hz⟩, ZD.hit hn hd' (by decide) (by decide)⟩
         · intro ys done W aa hE hn hF hD hZ hG hO
           replace hE : wr.grownBy W (some g) := hE
           have o1 := hO 0 (by kernel_rfl)
           replace o1 : aa.tmps[0]? = some (.pointer (some ⟨g, 0, none⟩)) := o1
           go_wp2_with fail
           exact ⟨_, rfl, gRefl _ _, rfl, hZ.light (by decide)⟩
         · intro ys done W aa hE hn hF hD hZ hG hO
           replace hE : wr.grownBy W (some g) := hE
           have v10 := hF 10 (by decide) (hD 10 (by kernel_rfl))
           replace v10 : ys 10 = .pointer (some ⟨g, 0, none⟩) := v10
           have g10 := hG 10 73 rfl (Nat.le_of_ble_eq_true rfl)
           rw [v10] at g10
           have hsd := sumD_bound (done := done) (ps := [(3, 2), (5, 2), (7, 2), (9, 2), (11, 1), (14, 1)]) (by decide)
           simp only [List.length_cons, List.length_nil] at hsd
           go_wp2_with fail
           refine (next_any _ g sv bs a b c _ 9 hZ.draft (by omega) (by omega)).mono ?_
           rintro e W' ⟨⟨x, rfl, hx⟩, hd', hg'⟩
           go_wp2_with fail
           exact ⟨_, rfl, hg', ⟨x, rfl, hx⟩, ZD.hit hn hd' (by decide) (by decide)⟩
         · intro ys done W aa hE hn hF hD hZ hG hO
           replace hE : wr.grownBy W (some g) := hE
           have v11 := hF 11 (by decide) (hD 11 (by kernel_rfl))
           replace v11 : ∃ r : Int, ys 11 = .int .i64 r ∧ 0 ≤ r ∧ r < 9 := v11
           obtain ⟨r, e, hr⟩ := v11
           have g11 := hG 11 74 rfl (Nat.le_of_ble_eq_true rfl)
           rw [e] at g11
           go_wp2_with fail
           exact ⟨_, rfl, gRefl _ _, ⟨1 + r, rfl, by omega, by omega⟩, hZ.light (by decide)⟩
         · intro ys done W aa hE hn hF hD hZ hG hO
           replace hE : wr.grownBy W (some g) := hE
           have o1 := hO 0 (by kernel_rfl)
           replace o1 : aa.tmps[0]? = some (.pointer (some ⟨g, 0, none⟩)) := o1
           go_wp2_with fail
           exact ⟨_, rfl, gRefl _ _, rfl, hZ.light (by decide)⟩
         · intro ys done W aa hE hn hF hD hZ hG hO
           replace hE : wr.grownBy W (some g) := hE
           have v13 := hF 13 (by decide) (hD 13 (by kernel_rfl))
           replace v13 : ys 13 = .pointer (some ⟨g, 0, none⟩) := v13
           have g13 := hG 13 76 rfl (Nat.le_of_ble_eq_true rfl)
           rw [v13] at g13
           have hsd := sumD_bound (done := done) (ps := [(3, 2), (5, 2), (7, 2), (9, 2), (11, 1), (14, 1)]) (by decide)
           simp only [List.length_cons, List.length_nil] at hsd
           go_wp2_with fail
           refine (next_any _ g sv bs a b c _ 5 hZ.draft (by omega) (by omega)).mono ?_
           rintro e W' ⟨⟨x, rfl, hx⟩, hd', hg'⟩
           go_wp2_with fail
           exact ⟨_, rfl, hg', ⟨x, rfl, hx⟩, ZD.hit hn hd' (by decide) (by decide)⟩
         · intro ys done W aa hE hn hF hD hZ hG hO
           replace hE : wr.grownBy W (some g) := hE
           have v3 := hF 3 (by decide) (hD 3 (by kernel_rfl))
           replace v3 : ∃ x z : Int, ys 3 = .agg #[.int .i64 x, .int .i64 z] ∧ (500 ≤ x ∧ x < 530) ∧ 500 ≤ z ∧ z < 530 := v3
           obtain ⟨x3, z3, e3, hx3, hz3⟩ := v3
           have g3 := hG 3 66 rfl (Nat.le_of_ble_eq_true rfl)
           rw [e3] at g3
           have v5 := hF 5 (by decide) (hD 5 (by kernel_rfl))
           replace v5 : ∃ x z : Int, ys 5 = .agg #[.int .i64 x, .int .i64 z] ∧ (500 ≤ x ∧ x < 530) ∧ 500 ≤ z ∧ z < 530 := v5
           obtain ⟨x5, z5, e5, hx5, hz5⟩ := v5
           have g5 := hG 5 68 rfl (Nat.le_of_ble_eq_true rfl)
           rw [e5] at g5
           have v7 := hF 7 (by decide) (hD 7 (by kernel_rfl))
           replace v7 : ∃ r s : Int, ys 7 = .agg #[.int .i64 (4 * r), .int .i64 (4 * r + 10 + 3 * s)] ∧ (0 ≤ r ∧ r < 60) ∧ 0 ≤ s ∧ s < 120 := v7
           obtain ⟨x7, z7, e7, hx7, hz7⟩ := v7
           have g7 := hG 7 70 rfl (Nat.le_of_ble_eq_true rfl)
           rw [e7] at g7
           have v9 := hF 9 (by decide) (hD 9 (by kernel_rfl))
           replace v9 : ∃ r s : Int, ys 9 = .agg #[.int .i64 (40 + 4 * r), .int .i64 (40 + 4 * r + 10 + 3 * s)] ∧ (0 ≤ r ∧ r < 80) ∧ 0 ≤ s ∧ s < 120 := v9
           obtain ⟨x9, z9, e9, hx9, hz9⟩ := v9
           have g9 := hG 9 72 rfl (Nat.le_of_ble_eq_true rfl)
           rw [e9] at g9
           have v12 := hF 12 (by decide) (hD 12 (by kernel_rfl))
           replace v12 : ∃ r : Int, ys 12 = .int .i64 r ∧ 1 ≤ r ∧ r < 10 := v12
           obtain ⟨x12, e12, hx12⟩ := v12
           have g12 := hG 12 75 rfl (Nat.le_of_ble_eq_true rfl)
           rw [e12] at g12
           have v14 := hF 14 (by decide) (hD 14 (by kernel_rfl))
           replace v14 : ∃ r : Int, ys 14 = .int .i64 r ∧ 0 ≤ r ∧ r < 5 := v14
           obtain ⟨x14, e14, hx14⟩ := v14
           have g14 := hG 14 77 rfl (Nat.le_of_ble_eq_true rfl)
           rw [e14] at g14
           go_wp2_with fail
           exact ⟨_, rfl, gRefl _ _, ⟨⟨x3, z3, x5, z5, 4 * x7, 4 * x7 + 10 + 3 * z7, 40 + 4 * x9, 40 + 4 * x9 + 10 + 3 * z9, x12, x14⟩, rfl, by have hh := rq_drawn hx3 hz3 hx5 hz5 hx7 hz7 hx9 hz9 (show 1 ≤ x12 ∧ x12 ≤ 9 by omega) hx14; simpa only [Int.zero_add] using hh⟩, hZ.light (by decide)⟩
         · intro ys done W aa hE hn hF hD hZ hG hO
           replace hE : wr.grownBy W (some g) := hE
           have v15 := hF 15 (by decide) (hD 15 (by kernel_rfl))
           replace v15 : ∃ q : Rq, ys 15 = .agg #[.int .i64 q.fx, .int .i64 q.fy, .int .i64 q.tx, .int .i64 q.ty, .int .i64 q.pe, .int .i64 q.pl, .int .i64 q.de, .int .i64 q.dl, .int .i64 q.ld, .int .i64 q.sv] ∧ q.chk = 0 := v15
           obtain ⟨q1, e, hq1⟩ := v15
           have g15 := hG 15 78 rfl (Nat.le_of_ble_eq_true rfl)
           rw [e] at g15
           replace hq1 := Lib.hid hq1
           go_wp2_with fail
           exact ⟨_, rfl, World.grownBy_alloc _ _ _, ⟨_, q1, rfl, hE.size, At.new _ _ _, hq1.out⟩, hZ.alloc (by decide) _⟩
        case hQ =>
         intro ys W hE hF hZ
         obtain ⟨done, hd, hZ⟩ := hZ
         have hdr := hZ.draft
         have hsd := sumD_bound (done := done) (ps := [(3, 2), (5, 2), (7, 2), (9, 2), (11, 1), (14, 1)]) (by decide)
         simp only [List.length_cons, List.length_nil] at hsd
         have hsum : sumD [(3, 2), (5, 2), (7, 2), (9, 2), (11, 1), (14, 1)] done = 10 := by simp [sumD, hd]
         rw [hsum] at hdr
         have hBW' := hBW.turn hE hdr
         have hbW' := gAt hbW hE (by simp; omega)
         have hown' := hown.kept hE (rowNe hown (by omega))
         have v1 : ys 1 = vR := hF 1 (by decide)
         obtain ⟨g1, q1, e16, hg1, hA1, hq1c⟩ : ∃ (g1 : Nat) (q : Rq), ys 16 = .slice (some ⟨g1, 0, none⟩) 1 1 ∧ wr.heap.size ≤ g1 ∧ At W g1 66 #[.int .i64 q.fx, .int .i64 q.fy, .int .i64 q.tx, .int .i64 q.ty, .int .i64 q.pe, .int .i64 q.pl, .int .i64 q.de, .int .i64 q.dl, .int .i64 q.ld, .int .i64 q.sv] ∧ q.chk = 0 := hF 16 (by decide)
         simp only [List.take_succ_cons, List.take_zero, List.drop_succ_cons, List.drop_zero, Sched.fill, v1, e16]
         clear hF hZ hd hdr hsd hsum v1 e16 hE hbW hown hBW
         have hqs := hbW'.inside
         go_simp
         go_wp2_with (at_builtin; refine wpList_append_own _ rfl _ _ 28 rfl (q + 1) 66 iR (.agg #[.int .i64 0, .int .i64 0, .int .i64 0, .int .i64 0, .int .i64 0, .int .i64 0, .int .i64 0, .int .i64 0, .int .i64 0, .int .i64 0]) 10 80 (by kernel_rfl) hiR hR0 hRs hRb rfl (by decide) _ _ _ rfl hown' ⟨g1, 0, none⟩ 1 1 [.int .i64 q1.fx, .int .i64 q1.fy, .int .i64 q1.tx, .int .i64 q1.ty, .int .i64 q1.pe, .int .i64 q1.pl, .int .i64 q1.de, .int .i64 q1.dl, .int .i64 q1.ld, .int .i64 q1.sv] rfl rfl (World.news_of_block (cs := #[.int .i64 q1.fx, .int .i64 q1.fy, .int .i64 q1.tx, .int .i64 q1.ty, .int .i64 q1.pe, .int .i64 q1.pl, .int .i64 q1.de, .int .i64 q1.dl, .int .i64 q1.ld, .int .i64 q1.sv]) (t := 66) (fr := (0, 0)) hA1) (by simp [Value.oneCell']) (by unfold maxLen; omega) (by omega) (by omega) ?_; intro v7 w7 hown7 hgrow7 hnil7; have hbx7 := gAt hbW' hgrow7 (fun e => by have := (hown'.lt _ e.symm).1; omega); have q0 := hbx7.cell 0; simp at q0; have qf0 := hbx7.free 0; obtain ⟨g7, cap7, h7, hg7⟩ := rowOpen hown7; subst h7)
         have hB7 := hBW'.grown hgrow7 (fun x e => by have := (hown'.lt _ e).1; omega)
         have hB8 := hB7.grown (put_grown w7 q 0 (.slice (some ⟨g7, 0, none⟩) (i + 1) cap7)) (fun x e => by cases e; exact hq1)
         have hown8 := hown7.kept (put_grown w7 q 0 (.slice (some ⟨g7, 0, none⟩) (i + 1) cap7)) (rowNe hown7 (by omega))
         have hbx8 := hbx7.put 0 (.slice (some ⟨g7, 0, none⟩) (i + 1) cap7)
         simp at hbx8
         rw [show flatR qs ++ [.int .i64 q1.fx, .int .i64 q1.fy, .int .i64 q1.tx, .int .i64 q1.ty, .int .i64 q1.pe, .int .i64 q1.pl, .int .i64 q1.de, .int .i64 q1.dl, .int .i64 q1.ld, .int .i64 q1.sv] = flatR (qs ++ [q1]) from (flatR_snoc qs q1).symm] at hown8
         clear hB7 hown7 hgrow7 hbx7 hnil7 q0 qf0 hown' hbW' hBW' hA1
         go_roundw
         case rel => exact ⟨i + 1, k + 10, _, qs ++ [q1], by go_num, hlt, by simp [hql], fun x hx => by rcases List.mem_append.1 hx with hx | hx; exact hqg x hx; simp at hx; rw [hx]; exact hq1c, by omega, by omega, hB8, hbx8, hown8⟩
         case measure => simp [intOf]; omega
      · obtain rfl : i = R := by omega
        have hko : 0 ≤ k ∧ k ≤ 120 := by omega
        clear hlt hk0 hk1
        obtain ⟨iC, hiC, hC0, hCs, hCb⟩ := info_parts info_crD
        obtain ⟨iV, hiV, hV0, hVs, hVb⟩ := info_parts info_vhD
        obtain ⟨iU, hiU, hU0, hUs, hUb⟩ := info_parts info_uD
        obtain ⟨iD, hiD, hD0, hDs, hDb⟩ := info_parts info_duD
        have hL0 : DLay wr q cm rv sch vR (.slice none 0 0) (.slice none 0 0) (.slice none 0 0) qs [] [] [] [] :=
          ⟨hbW, by rw [hql]; exact hown, World.ownsRow_nil _ _ _ _, World.ownsRow_nil _ _ _ _, World.ownsRow_nil _ _ _ _, fun d hd => (by cases hd), rfl, fun j u x hu _ => (by simp at hu), fun j u x hu _ => (by simp at hu), fun i j u u' _ hu _ => (by simp at hu)⟩
        clear hbW hown hiR hR0 hRs hRb
        go_wp2_with fail
        go_loopw [7] (fun v wr => ∃ (j : Nat) (k : Int) (vC vD : Value) (us : List (Value × Value)) (cs : List Cr) (ds : List Value), v = .int .i64 j ∧ j ≤ C ∧ us.length = j ∧ ds.length = j ∧ (0 ≤ k ∧ k ≤ 120 + 20 * j) ∧ Base w g sv bs a b c wr k ∧ DLay wr q cm rv sch vR vC (.slice none 0 0) vD qs us cs [] ds ∧ ∀ x ∈ cs, x.own = []) (fun v _ => C - (intOf v).toNat)
        case atStart => exact ⟨0, k, _, _, [], [], [], rfl, Nat.zero_le _, rfl, rfl, by omega, hBW, hL0, fun x hx => (by cases hx)⟩
        case round =>
          clear hL0 hBW hko
          obtain ⟨j, k, vC, vD, us, cs, ds, rfl, hj, hul, hdl, hk, hBW, hL, hcown⟩ := hrel
          by_cases hlt : j < C
          · go_upto_region 12 with fail
            obtain ⟨X, hX⟩ : ∃ X, X = wr.heap.size := ⟨_, rfl⟩
            have hA := At.new_ wr 53 #[.slice none 0 0, .slice none 0 0] hX
            have hE := World.grownBy_alloc wr (.cells #[.slice none 0 0, .slice none 0 0] 53) (some g)
            have hd := hBW.dr.alloc (.cells #[.slice none 0 0, .slice none 0 0] 53)
            have hXq : q < X := by rw [hX]; exact hL.box.inside
            have hXw : X ≤ wr.heap.size ∧ wr.heap.size ≤ X := by omega
            rw [← hX]
            clear hX
            obtain ⟨w6, hw6⟩ : ∃ w6, wr.alloc (.cells #[.slice none 0 0, .slice none 0 0] 53) = w6 := ⟨_, rfl⟩
            rw [hw6] at hA hE hd ⊢
            clear hw6
            obtain ⟨wo, hwo⟩ : ∃ wo, wo = wr := ⟨_, rfl⟩
            rw [← hwo] at hBW hL hE hXw
            clear hwo
            go_wp2_with fail
            refine (next_any _ g sv bs a b c k 2 hd (by omega) (by omega)).mono ?_
            rintro e w7 ⟨⟨r, rfl, hr1, hr2⟩, hd7, hg7⟩
            have hA7 := gAt hA hg7 (by simp; omega)
            have hE7 := hE.trans hg7
            clear hA hE hd hg7
            obtain ⟨m0, hm0⟩ : ∃ m0 : Nat, 1 + r = m0 := ⟨(1 + r).toNat, by omega⟩
            have hm1 : 1 ≤ m0 ∧ m0 ≤ 2 := by omega
            go_wp2_with fail
            clear hm0 hr1 hr2
            go_loopw [9] (fun v ws => ∃ (m : Nat) (k' : Int) (vF : Value) (hs : List Vh), v = .int .i64 m ∧ m + hs.length = m0 ∧ (∀ x ∈ hs, x.chk = 0) ∧ (0 ≤ k' ∧ k' ≤ k + 1 + 5 * hs.length) ∧ DraftAt ws g sv bs a b c k' ∧ wo.grownBy ws (some g) ∧
              At ws X 53 #[vF, .slice none 0 0] ∧ ws.ownsRow (X + 1) 57 5 vF hs.length (flatV hs)) (fun v _ => (intOf v).toNat)
            case atStart => exact ⟨m0, k + 1, _, [], rfl, rfl, fun x hx => (by cases hx), by simp; omega, hd7, hE7, hA7, World.ownsRow_nil _ _ _ _⟩
            case round =>
              clear hd7 hE7 hA7
              obtain ⟨m, k', vF, hs, rfl, hm, hgood, hk', hd, hE, hA, hrow⟩ := hrel
              by_cases hpos : 0 < m
              · obtain ⟨m', rfl⟩ : ∃ m', m = m' + 1 := ⟨m - 1, by omega⟩
                go_upto_region 15 with fail
                refine Sched.wp_region_sched 15 (fun W W' => W.grownBy W' (some g)) (V15d g X wr.heap.size vF) (ZD g sv bs a b c k' [(3, 2), (5, 1), (8, 1), (10, 1)]) (by kernel_rfl) (by kernel_rfl) (by kernel_rfl) (fun h1 h2 => h1.trans h2) (fun h1 h2 => V15d.keep h1 (by have := hd.box.inside; omega) h2) (gDrew _ _) (fun ys => ZD.start hd.drewN ys) (Sched.StepsA.steps (by kernel_rfl) ?hS3) ?hQ3
                case hS3 =>
                 simp only [List.take_succ_cons, List.take_zero]
                 refine ⟨?_, ?_, ?_, ?_, ?_, ?_, ?_, ?_, ?_, ?_, ?_, ?_, ?_, ?_, ?_, trivial⟩
                 · intro ys done W aa hE hn hF hD hZ hG hO
                   replace hE : wr.grownBy W (some g) := hE
                   have o1 := hO 8 (by kernel_rfl)
                   replace o1 : aa.tmps[8]? = some (.pointer (some ⟨X, 0, none⟩)) := o1
                   go_wp2_with fail
                   exact ⟨_, rfl, gRefl _ _, rfl, hZ.light (by decide)⟩
                 · intro ys done W aa hE hn hF hD hZ hG hO
                   replace hE : wr.grownBy W (some g) := hE
                   have v0 := hF 0 (by decide) (hD 0 (by kernel_rfl))
                   replace v0 : ys 0 = .pointer (some ⟨X, 0, none⟩) := v0
                   have g0 := hG 0 94 rfl (Nat.le_of_ble_eq_true rfl)
                   rw [v0] at g0
                   have p := (gAt hA hE (by simp; omega)).cell 0
                   simp at p
                   go_wp2_with fail
                   exact ⟨_, rfl, gRefl _ _, rfl, hZ.light (by decide)⟩
                 · intro ys done W aa hE hn hF hD hZ hG hO
                   replace hE : wr.grownBy W (some g) := hE
                   have o1 := hO 0 (by kernel_rfl)
                   replace o1 : aa.tmps[0]? = some (.pointer (some ⟨g, 0, none⟩)) := o1
                   go_wp2_with fail
                   exact ⟨_, rfl, gRefl _ _, rfl, hZ.light (by decide)⟩
                 · intro ys done W aa hE hn hF hD hZ hG hO
                   replace hE : wr.grownBy W (some g) := hE
                   have v2 := hF 2 (by decide) (hD 2 (by kernel_rfl))
                   replace v2 : ys 2 = .pointer (some ⟨g, 0, none⟩) := v2
                   have g2 := hG 2 96 rfl (Nat.le_of_ble_eq_true rfl)
                   rw [v2] at g2
                   have hsd := sumD_bound (done := done) (ps := [(3, 2), (5, 1), (8, 1), (10, 1)]) (by decide)
                   simp only [List.length_cons, List.length_nil] at hsd
                   go_wp2_with fail
                   refine (dplace_any _ g sv bs a b c _ hZ.draft (by omega)).mono ?_
                   rintro e W' ⟨⟨x, z, rfl, hx, hz⟩, hd', hg'⟩
                   go_wp2_with fail
                   exact ⟨_, rfl, hg', ⟨x, z, rfl, hx, hz⟩, ZD.hit hn hd' (by decide) (by decide)⟩
                 · intro ys done W aa hE hn hF hD hZ hG hO
                   replace hE : wr.grownBy W (some g) := hE
                   have o1 := hO 0 (by kernel_rfl)
                   replace o1 : aa.tmps[0]? = some (.pointer (some ⟨g, 0, none⟩)) := o1
                   go_wp2_with fail
                   exact ⟨_, rfl, gRefl _ _, rfl, hZ.light (by decide)⟩
                 · intro ys done W aa hE hn hF hD hZ hG hO
                   replace hE : wr.grownBy W (some g) := hE
                   have v4 := hF 4 (by decide) (hD 4 (by kernel_rfl))
                   replace v4 : ys 4 = .pointer (some ⟨g, 0, none⟩) := v4
                   have g4 := hG 4 98 rfl (Nat.le_of_ble_eq_true rfl)
                   rw [v4] at g4
                   have hsd := sumD_bound (done := done) (ps := [(3, 2), (5, 1), (8, 1), (10, 1)]) (by decide)
                   simp only [List.length_cons, List.length_nil] at hsd
                   go_wp2_with fail
                   refine (next_any _ g sv bs a b c _ 20 hZ.draft (by omega) (by omega)).mono ?_
                   rintro e W' ⟨⟨x, rfl, hx⟩, hd', hg'⟩
                   go_wp2_with fail
                   exact ⟨_, rfl, hg', ⟨x, rfl, hx⟩, ZD.hit hn hd' (by decide) (by decide)⟩
                 · intro ys done W aa hE hn hF hD hZ hG hO
                   replace hE : wr.grownBy W (some g) := hE
                   have v5 := hF 5 (by decide) (hD 5 (by kernel_rfl))
                   replace v5 : ∃ r : Int, ys 5 = .int .i64 r ∧ 0 ≤ r ∧ r < 20 := v5
                   obtain ⟨r, e, hr⟩ := v5
                   have g5 := hG 5 99 rfl (Nat.le_of_ble_eq_true rfl)
                   rw [e] at g5
                   go_wp2_with fail
                   exact ⟨_, rfl, gRefl _ _, ⟨r, rfl, hr⟩, hZ.light (by decide)⟩
                 · intro ys done W aa hE hn hF hD hZ hG hO
                   replace hE : wr.grownBy W (some g) := hE
                   have o1 := hO 0 (by kernel_rfl)
                   replace o1 : aa.tmps[0]? = some (.pointer (some ⟨g, 0, none⟩)) := o1
                   go_wp2_with fail
                   exact ⟨_, rfl, gRefl _ _, rfl, hZ.light (by decide)⟩
                 · intro ys done W aa hE hn hF hD hZ hG hO
                   replace hE : wr.grownBy W (some g) := hE
                   have v7 := hF 7 (by decide) (hD 7 (by kernel_rfl))
                   replace v7 : ys 7 = .pointer (some ⟨g, 0, none⟩) := v7
                   have g7 := hG 7 101 rfl (Nat.le_of_ble_eq_true rfl)
                   rw [v7] at g7
                   have hsd := sumD_bound (done := done) (ps := [(3, 2), (5, 1), (8, 1), (10, 1)]) (by decide)
                   simp only [List.length_cons, List.length_nil] at hsd
                   go_wp2_with fail
                   refine (next_any _ g sv bs a b c _ 20 hZ.draft (by omega) (by omega)).mono ?_
                   rintro e W' ⟨⟨x, rfl, hx⟩, hd', hg'⟩
                   go_wp2_with fail
                   exact ⟨_, rfl, hg', ⟨x, rfl, hx⟩, ZD.hit hn hd' (by decide) (by decide)⟩
                 · intro ys done W aa hE hn hF hD hZ hG hO
                   replace hE : wr.grownBy W (some g) := hE
                   have o1 := hO 0 (by kernel_rfl)
                   replace o1 : aa.tmps[0]? = some (.pointer (some ⟨g, 0, none⟩)) := o1
                   go_wp2_with fail
                   exact ⟨_, rfl, gRefl _ _, rfl, hZ.light (by decide)⟩
                 · intro ys done W aa hE hn hF hD hZ hG hO
                   replace hE : wr.grownBy W (some g) := hE
                   have v9 := hF 9 (by decide) (hD 9 (by kernel_rfl))
                   replace v9 : ys 9 = .pointer (some ⟨g, 0, none⟩) := v9
                   have g9 := hG 9 103 rfl (Nat.le_of_ble_eq_true rfl)
                   rw [v9] at g9
                   have hsd := sumD_bound (done := done) (ps := [(3, 2), (5, 1), (8, 1), (10, 1)]) (by decide)
                   simp only [List.length_cons, List.length_nil] at hsd
                   go_wp2_with fail
                   refine (next_any _ g sv bs a b c _ 120 hZ.draft (by omega) (by omega)).mono ?_
                   rintro e W' ⟨⟨x, rfl, hx⟩, hd', hg'⟩
                   go_wp2_with fail
                   exact ⟨_, rfl, hg', ⟨x, rfl, hx⟩, ZD.hit hn hd' (by decide) (by decide)⟩
                 · intro ys done W aa hE hn hF hD hZ hG hO
                   replace hE : wr.grownBy W (some g) := hE
                   have v10 := hF 10 (by decide) (hD 10 (by kernel_rfl))
                   replace v10 : ∃ r : Int, ys 10 = .int .i64 r ∧ 0 ≤ r ∧ r < 120 := v10
                   obtain ⟨r, e, hr⟩ := v10
                   have g10 := hG 10 104 rfl (Nat.le_of_ble_eq_true rfl)
                   rw [e] at g10
                   go_wp2_with fail
                   exact ⟨_, rfl, gRefl _ _, ⟨r, rfl, hr⟩, hZ.light (by decide)⟩
                 · intro ys done W aa hE hn hF hD hZ hG hO
                   replace hE : wr.grownBy W (some g) := hE
                   have v11 := hF 11 (by decide) (hD 11 (by kernel_rfl))
                   replace v11 : ∃ r : Int, ys 11 = .int .i64 (5 * r) ∧ 0 ≤ r ∧ r < 120 := v11
                   obtain ⟨r, e, hr⟩ := v11
                   have g11 := hG 11 105 rfl (Nat.le_of_ble_eq_true rfl)
                   rw [e] at g11
                   go_wp2_with fail
                   exact ⟨_, rfl, gRefl _ _, ⟨r, rfl, hr⟩, hZ.light (by decide)⟩
                 · intro ys done W aa hE hn hF hD hZ hG hO
                   replace hE : wr.grownBy W (some g) := hE
                   have v3 := hF 3 (by decide) (hD 3 (by kernel_rfl))
                   replace v3 : ∃ x z : Int, ys 3 = .agg #[.int .i64 x, .int .i64 z] ∧ (500 ≤ x ∧ x < 530) ∧ 500 ≤ z ∧ z < 530 := v3
                   obtain ⟨x3, z3, e3, hx3, hz3⟩ := v3
                   have g3 := hG 3 97 rfl (Nat.le_of_ble_eq_true rfl)
                   rw [e3] at g3
                   have v6 := hF 6 (by decide) (hD 6 (by kernel_rfl))
                   replace v6 : ∃ r : Int, ys 6 = .int .i64 (5 + r) ∧ 0 ≤ r ∧ r < 20 := v6
                   obtain ⟨x6, e6, hx6⟩ := v6
                   have g6 := hG 6 100 rfl (Nat.le_of_ble_eq_true rfl)
                   rw [e6] at g6
                   have v8 := hF 8 (by decide) (hD 8 (by kernel_rfl))
                   replace v8 : ∃ r : Int, ys 8 = .int .i64 r ∧ 0 ≤ r ∧ r < 20 := v8
                   obtain ⟨x8, e8, hx8⟩ := v8
                   have g8 := hG 8 102 rfl (Nat.le_of_ble_eq_true rfl)
                   rw [e8] at g8
                   have v12 := hF 12 (by decide) (hD 12 (by kernel_rfl))
                   replace v12 : ∃ r : Int, ys 12 = .int .i64 (400 + 5 * r) ∧ 0 ≤ r ∧ r < 120 := v12
                   obtain ⟨x12, e12, hx12⟩ := v12
                   have g12 := hG 12 106 rfl (Nat.le_of_ble_eq_true rfl)
                   rw [e12] at g12
                   go_wp2_with fail
                   exact ⟨_, rfl, gRefl _ _, ⟨⟨x3, z3, 5 + x6, x8, 400 + 5 * x12⟩, rfl, vh_drawn hx3 hz3 hx6 hx8 hx12⟩, hZ.light (by decide)⟩
                 · intro ys done W aa hE hn hF hD hZ hG hO
                   replace hE : wr.grownBy W (some g) := hE
                   have v13 := hF 13 (by decide) (hD 13 (by kernel_rfl))
                   replace v13 : ∃ q : Vh, ys 13 = .agg #[.int .i64 q.hx, .int .i64 q.hy, .int .i64 q.cp, .int .i64 q.st, .int .i64 q.en] ∧ q.chk = 0 := v13
                   obtain ⟨q1, e, hq1⟩ := v13
                   have g13 := hG 13 107 rfl (Nat.le_of_ble_eq_true rfl)
                   rw [e] at g13
                   replace hq1 := Lib.hid hq1
                   go_wp2_with fail
                   exact ⟨_, rfl, World.grownBy_alloc _ _ _, ⟨_, q1, rfl, hE.size, At.new _ _ _, hq1.out⟩, hZ.alloc (by decide) _⟩
                case hQ3 =>
                 intro ys W hE3 hF hZ
                 obtain ⟨done, hdo, hZ⟩ := hZ
                 have hdr := hZ.draft
                 have hsum : sumD [(3, 2), (5, 1), (8, 1), (10, 1)] done = 5 := by simp [sumD, hdo]
                 rw [hsum] at hdr
                 have hE' := hE.trans hE3
                 have hA' := gAt hA hE3 (by simp; omega)
                 have hrow' := hrow.kept hE3 (rowNe hrow (by omega))
                 have v1 : ys 1 = vF := hF 1 (by decide)
                 obtain ⟨g1, q1, e14, hg1, hA1, hq1c⟩ : ∃ (g1 : Nat) (q : Vh), ys 14 = .slice (some ⟨g1, 0, none⟩) 1 1 ∧ wr.heap.size ≤ g1 ∧ At W g1 57 #[.int .i64 q.hx, .int .i64 q.hy, .int .i64 q.cp, .int .i64 q.st, .int .i64 q.en] ∧ q.chk = 0 := hF 14 (by decide)
                 simp only [List.take_succ_cons, List.take_zero, List.drop_succ_cons, List.drop_zero, Sched.fill, v1, e14]
                 clear hF hZ hdo hsum v1 e14 hE3 hA hrow hd hE
                 have hqs := hA'.inside
                 go_simp
                 go_wp2_with (at_builtin; refine wpList_append_own _ rfl _ _ 51 rfl (X + 1) 57 iV (.agg #[.int .i64 0, .int .i64 0, .int .i64 0, .int .i64 0, .int .i64 0]) 5 40 (by kernel_rfl) hiV hV0 hVs hVb rfl (by decide) _ _ _ rfl hrow' ⟨g1, 0, none⟩ 1 1 [.int .i64 q1.hx, .int .i64 q1.hy, .int .i64 q1.cp, .int .i64 q1.st, .int .i64 q1.en] rfl rfl (World.news_of_block (cs := #[.int .i64 q1.hx, .int .i64 q1.hy, .int .i64 q1.cp, .int .i64 q1.st, .int .i64 q1.en]) (t := 57) (fr := (0, 0)) hA1) (by simp [Value.oneCell']) (by unfold maxLen; omega) (by omega) (by omega) ?_; intro v7 w8 hown7 hgrow7 hnil7; have hbx7 := gAt hA' hgrow7 (fun e => by have := (hrow'.lt _ e.symm).1; omega); have q0 := hbx7.cell 0; simp at q0; have qf0 := hbx7.free 0; obtain ⟨g7, cap7, h7, hg7⟩ := rowOpen hown7; subst h7)
                 have hE8 := own_grown hE' hgrow7 (fun x e => by have := (hrow'.lt _ e).1; omega)
                 have hE9 := own_grown hE8 (put_grown w8 X 0 (.slice (some ⟨g7, 0, none⟩) (hs.length + 1) cap7)) (fun x e => by cases e; omega)
                 have hd9 := (hdr.grown hgrow7 (fun x e => by have := (hrow'.lt _ e).1; omega)).far (show g < X by omega) 0 (.slice (some ⟨g7, 0, none⟩) (hs.length + 1) cap7)
                 have hrow9 := hown7.kept (put_grown w8 X 0 (.slice (some ⟨g7, 0, none⟩) (hs.length + 1) cap7)) (rowNe hown7 (by omega))
                 have hA9 := hbx7.put 0 (.slice (some ⟨g7, 0, none⟩) (hs.length + 1) cap7)
                 simp at hA9
                 rw [show flatV hs ++ [.int .i64 q1.hx, .int .i64 q1.hy, .int .i64 q1.cp, .int .i64 q1.st, .int .i64 q1.en] = flatV (hs ++ [q1]) from (flatV_snoc hs q1).symm] at hrow9
                 clear hE8 hE' hown7 hgrow7 hbx7 hnil7 q0 qf0 hrow' hA' hA1 hdr
                 go_roundw
                 case rel => exact ⟨m', k' + 5, _, hs ++ [q1], by go_num, by simp; omega, fun x hx => by rcases List.mem_append.1 hx with hx | hx; exact hgood x hx; simp at hx; rw [hx]; exact hq1c, by simp; omega, hd9, hE9, hA9, by simpa using hrow9⟩
                 case measure => simp [intOf]
              · obtain rfl : m = 0 := by omega
                have hlen : hs.length = m0 := by omega
                obtain ⟨xF, cF, rfl, hF1, hF2⟩ := rowSlice hrow
                go_wp2_with fail
                refine (next_any _ g sv bs a b c k' 4 hd (by omega) (by omega)).mono ?_
                rintro e w8 ⟨⟨r, rfl, hr1, hr2⟩, hd8, hg8⟩
                have hE8 := hE.trans hg8
                have hA8 := gAt hA hg8 (by simp; omega)
                have hrow8 := hrow.kept hg8 (rowNe hrow (by omega))
                have hgw8 : g < w8.heap.size := hd8.box.inside
                clear hE hA hrow hd hg8
                obtain ⟨m1, hm1⟩ : ∃ m1 : Nat, r = m1 := ⟨r.toNat, by omega⟩
                subst hm1
                go_wp2_with fail
                go_loopw [10, 11] (fun vx v ws => ∃ (n : Nat) (k2 : Int) (xs : List Value), v = .int .i64 n ∧ n + xs.length = m1 ∧ (0 ≤ k2 ∧ k2 ≤ k' + 1 + xs.length) ∧ DraftAt ws g sv bs a b c k2 ∧ w8.grownBy ws (some g) ∧ ws.ownsRow w8.heap.size 74 1 vx xs.length xs) (fun _ v _ => (intOf v).toNat)
                case atStart => exact ⟨m1, k' + 1, [], rfl, rfl, by simp <;> omega, hd8, gRefl _ _, World.ownsRow_nil _ _ _ _⟩
                case round =>
                  clear hd8
                  obtain ⟨n, k2, xs, rfl, hn, hk2, hd2, hE2, hrow2⟩ := hrel
                  by_cases hpos : 0 < n
                  · obtain ⟨n', rfl⟩ : ∃ n', n = n' + 1 := ⟨n - 1, by omega⟩
                    go_wp2_with fail
                    refine (next_any _ g sv bs a b c k2 250 hd2 (by omega) (by omega)).mono ?_
                    rintro e w9 ⟨⟨r, rfl, hr1, hr2⟩, hd9, hg9⟩
                    have hrow9 := hrow2.kept hg9 (rowNe hrow2 hgw8)
                    have hE9 := hE2.trans hg9
                    have hs9 : w8.heap.size ≤ w9.heap.size := hE9.size
                    clear hd2 hg9 hrow2 hE2
                    go_wp2_with (at_builtin; refine wpList_append_own _ rfl _ _ 73 rfl w8.heap.size 74 iU (.int .u64 0) 1 8 (by kernel_rfl) hiU hU0 hUs hUb rfl (by decide) _ _ _ rfl (hrow9.alloc _) ⟨w9.heap.size, 0, none⟩ 1 1 [.int .u64 r] rfl rfl (World.news_of_block (cs := #[.int .u64 r]) (t := 74) (fr := (0, 0)) (heap_alloc_new w9 _)) (by simp [Value.oneCell']) (by unfold maxLen; omega) (by omega) (by simp <;> omega) ?_; intro v7 w10 hown7 hgrow7 hnil7)
                    have hE10 := own_grown (hE9.trans (World.grownBy_alloc w9 (.cells #[.int .u64 r] 74) (some g))) hgrow7 (fun x e => (hrow9.lt _ e).1)
                    have hd10 := (hd9.alloc (.cells #[.int .u64 r] 74)).grown hgrow7 (fun x e => by have := (hrow9.lt _ e).1; omega)
                    clear hgrow7 hnil7 hrow9 hE9 hd9
                    go_roundw
                    case rel => exact ⟨n', k2 + 1, xs ++ [.int .u64 r], by go_num, by simp <;> omega, by simp <;> omega, hd10, hE10, by simpa using hown7⟩
                    case measure => simp [intOf]
                  · obtain rfl : n = 0 := by omega
                    obtain ⟨x7, c7, rfl, _, _⟩ := rowSlice hrow2
                    have hE10 := hE8.trans hE2
                    have hA10 := gAt hA8 hE2 (by simp; omega)
                    have hrF := hrow8.kept hE2 (rowNe hrow8 (by omega))
                    have hB10 := hBW.turn hE10 hd2
                    have hL10 := hL.free hE10 (fun x e => by cases e; left; omega)
                    have hlen4 : 1 ≤ hs.length ∧ hs.length ≤ 4 := by omega
                    have hul4 : us.length ≤ j ∧ j ≤ us.length ∧ ds.length ≤ j ∧ j ≤ ds.length := by omega
                    have hk4 : 0 ≤ k2 ∧ k2 ≤ k + 20 := by omega
                    clear hlen hul hdl hm hn
                    clear hE10 hE2 hd2 hE8 hA8 hrow8 hrow2 hBW hL
                    have p1 := hL10.box.cell 1
                    have a0 := hA10.cell 0
                    have a1 := hA10.cell 1
                    simp at p1 a0 a1
                    have hsz := hL10.box.inside
                    have hXs := hA10.inside
                    go_upto_region 22 with (at_builtin; go_loud (refine wpList_append_own _ rfl _ _ 29 rfl (q + 1) 53 iC (.agg #[.slice none 0 0, .slice none 0 0]) 2 48 (by kernel_rfl) hiC hC0 hCs hCb rfl (by decide) _ _ _ rfl (hL10.cr.alloc _) ⟨wr.heap.size, 0, none⟩ 1 1 [.slice xF hs.length cF, .slice none 0 0] rfl rfl (World.news_of_block (cs := #[.slice xF hs.length cF, .slice none 0 0]) (t := 53) (fr := (0, 0)) (heap_alloc_new wr _)) (by simp [Value.oneCell']) (by unfold maxLen; omega) (by omega) (by simp; omega) ?_; intro v7 w11 hown7 hgrow7 hnil7; have hbx7 := gAt (hL10.box.alloc _) hgrow7 (fun e => by have := (hL10.cr.lt _ e.symm).1; omega); have q1 := hbx7.cell 1; simp at q1; have qf1 := hbx7.free 1; obtain ⟨g7, cap7, h7, hg7⟩ := rowOpen hown7; subst h7))
                    have hF := (hrF.alloc (.cells #[.slice xF hs.length cF, .slice none 0 0] 53))
                    have hL11 := (hL10.free (World.grownBy_alloc wr (.cells #[.slice xF hs.length cF, .slice none 0 0] 53) none) (fun x e => by cases e)).car (fleet := hs) hown7 hgrow7 ⟨rowBase hF (by omega), hlen4, hgood⟩
                    have hB11 := ((hB10.grown (World.grownBy_alloc wr (.cells #[.slice xF hs.length cF, .slice none 0 0] 53) none) (fun x e => by cases e)).grown hgrow7 (fun x e => by have := (hL10.cr.lt _ e).1; omega)).grown (put_grown w11 q 1 (.slice (some ⟨g7, 0, none⟩) (us.length + 1) cap7)) (fun x e => by cases e; exact hq1)
                    clear p1 a0 a1 hF hown7 hgrow7 hnil7 hbx7 q1 qf1 hL10 hB10 hrF hA10 hsz hXs
                    obtain ⟨w12, hw12⟩ : ∃ w12, w11.setCell ⟨q, 1, none⟩ (.slice (some ⟨g7, 0, none⟩) (us.length + 1) cap7) = w12 := ⟨_, rfl⟩
                    rw [hw12] at hL11 hB11 ⊢
                    clear hw12
                    have p6 := hL11.box.cell 6
                    simp at p6
                    have hsz := hL11.box.inside
                    go_wp2_with (at_builtin; refine wpList_append_own _ rfl _ _ 31 rfl (q + 1) 73 iD (.slice none 0 0) 1 24 (by kernel_rfl) hiD hD0 hDs hDb rfl (by decide) _ _ _ rfl (hL11.du.alloc _) ⟨w12.heap.size, 0, none⟩ 1 1 [.slice x7 xs.length c7] rfl rfl (World.news_of_block (cs := #[.slice x7 xs.length c7]) (t := 73) (fr := (0, 0)) (heap_alloc_new w12 _)) (by simp [Value.oneCell']) (by unfold maxLen; omega) (by omega) (by simp; omega) ?_; intro v7 w13 hown7 hgrow7 hnil7; have hbx7 := gAt (hL11.box.alloc _) hgrow7 (fun e => by have := (hL11.du.lt _ e.symm).1; omega); have q6 := hbx7.cell 6; simp at q6; have qf6 := hbx7.free 6; obtain ⟨g8, cap8, h8, hg8⟩ := rowOpen hown7; subst h8)
                    have hL13 := (hL11.free (World.grownBy_alloc w12 (.cells #[.slice x7 xs.length c7] 73) none) (fun x e => by cases e)).draw hown7 hgrow7 rfl
                    have hB13 := ((hB11.grown (World.grownBy_alloc w12 (.cells #[.slice x7 xs.length c7] 73) none) (fun x e => by cases e)).grown hgrow7 (fun x e => by have := (hL11.du.lt _ e).1; omega)).grown (put_grown w13 q 6 (.slice (some ⟨g8, 0, none⟩) (ds.length + 1) cap8)) (fun x e => by cases e; exact hq1)
                    clear p6 hown7 hgrow7 hnil7 hbx7 q6 qf6 hL11 hB11 hsz
                    go_roundw
                    case rel => exact ⟨j + 1, k2, _, _, _, _, _, by go_num, hlt, by simp; omega, by simp; omega, by omega, hB13, hL13, fun x hx => by rcases List.mem_append.1 hx with hx | hx; exact hcown x hx; simp at hx; rw [hx]⟩
                    case measure => simp [intOf]; omega
          · obtain rfl : j = C := by omega
            have hcl : cs.length ≤ j ∧ j ≤ cs.length ∧ us.length ≤ j ∧ j ≤ us.length ∧ ds.length ≤ j ∧ j ≤ ds.length := by rw [← hL.len]; omega
            obtain ⟨gC, capC, rfl, hgC1, hgC2, hcC1, hcC2⟩ := rowSome hL.cr (by omega)
            clear hlt hiC hC0 hCs hCb hiV hV0 hVs hVb hiU hU0 hUs hUb hiD hD0 hDs hDb hul hdl hj
            obtain ⟨iI, hiI, hI0, hIs, hIb⟩ := info_parts info_inD
            obtain ⟨iL, hiL, hLL0, hLs, hLb⟩ := info_parts info_ltD
            have hqg' := Lib.hid hqg
            have hql' := Lib.hid hql
            clear hqg hql
            go_wp2_with fail
            go_loopw [12] (fun v wr => ∃ (r : Nat) (k2 : Int) (vL : Value) (us : List (Value × Value)) (cs : List Cr) (ls : List Lt), v = .int .i64 r ∧ r ≤ i ∧ (cs.length ≤ j ∧ j ≤ cs.length ∧ us.length ≤ j ∧ j ≤ us.length ∧ ds.length ≤ j ∧ j ≤ ds.length) ∧ (0 ≤ k2 ∧ k2 ≤ 300 + 3 * r) ∧ Base w g sv bs a b c wr k2 ∧
              DLay wr q cm rv sch vR (.slice (some ⟨gC, 0, none⟩) us.length capC) vL vD qs us cs ls ds ∧ (cs.flatMap (·.own)).Perm (upI r) ∧ (∀ l ∈ ls, (0 ≤ l.req ∧ l.req < r) ∧ 0 ≤ l.res ∧ l.res < 250) ∧ (ls.map (·.req)).Nodup ∧ ls.length ≤ r) (fun v _ => i - (intOf v).toNat)
            case atStart => exact ⟨0, k, _, us, cs, [], rfl, Nat.zero_le _, hcl, by omega, hBW, hL, by
              have : cs.flatMap (·.own) = [] := List.flatMap_eq_nil_iff.2 hcown
              rw [this]; exact List.Perm.refl _, fun l hl => (by cases hl), List.nodup_nil, Nat.le_refl _⟩
            case round =>
              clear hcl hcown hBW hL hk
              obtain ⟨r, k2, vL, us, cs, ls, rfl, hr, hcl, hk2, hBW, hL, hperm, hls, hnd, hll⟩ := hrel
              by_cases hlt : r < i
              · have hk4 : j ≤ 6 ∧ 1 ≤ j := by omega
                go_wp2_with fail
                refine (next_any _ g sv bs a b c k2 j hBW.dr (by omega) (by omega)).mono ?_
                rintro e w7 ⟨⟨rr, rfl, hr1, hr2⟩, hd7, hg7⟩
                have hB7 := hBW.turn hg7 hd7
                have hL7 := hL.free hg7 (fun x e => by cases e; left; omega)
                clear hBW hL hg7 hd7
                obtain ⟨t, ht⟩ : ∃ t : Nat, rr = t := ⟨rr.toNat, by omega⟩
                subst ht
                have htj : t < j := by omega
                obtain ⟨u, hu⟩ : ∃ u, us[t]? = some u := ⟨_, List.getElem?_eq_getElem (by omega)⟩
                obtain ⟨x, hx⟩ : ∃ x, cs[t]? = some x := ⟨_, List.getElem?_eq_getElem (by omega)⟩
                have how := hL7.ow t u x hu hx
                have hxo : x.own.length ≤ 12 := by
                  have h1 := own_le hx
                  rw [hperm.length_eq, upI_length] at h1
                  omega
                go_upto_region 27 with fail
                refine Sched.wp_region_sched 12 (fun W W' => W.grownBy W' u.2.ownBlock) (V27 q gC us.length capC t r w7.heap.size u.2) (Z27 (q + 1) w7.heap.size u.2 x.own r) (by kernel_rfl) (by kernel_rfl) (by kernel_rfl) (fun h1 h2 => h1.trans h2) (fun h1 h2 => V27.keep (fun b e => (how.lt b e).2) h1 h2) (gDrew _ _) (fun ys => ⟨fun _ => how, fun h => by cases h⟩) (Sched.StepsA.steps (by kernel_rfl) ?hS5) ?hQ5
                case hS5 =>
                 simp only [List.take_succ_cons, List.take_zero]
                 refine ⟨?_, ?_, ?_, ?_, ?_, ?_, ?_, ?_, ?_, ?_, ?_, ?_, trivial⟩
                 · intro ys done W aa hE hn hF hD hZ hG hO
                   replace hE : w7.grownBy W u.2.ownBlock := hE
                   have o1 := hO 3 (by kernel_rfl)
                   replace o1 : aa.tmps[3]? = some (.pointer (some ⟨q, 0, none⟩)) := o1
                   go_wp2_with fail
                   exact ⟨_, rfl, gRefl _ _, rfl, hZ.light (by decide)⟩
                 · intro ys done W aa hE hn hF hD hZ hG hO
                   replace hE : w7.grownBy W u.2.ownBlock := hE
                   have v0 := hF 0 (by decide) (hD 0 (by kernel_rfl))
                   replace v0 : ys 0 = .pointer (some ⟨q, 1, none⟩) := v0
                   have g0 := hG 0 143 rfl (Nat.le_of_ble_eq_true rfl)
                   rw [v0] at g0
                   have p := (gAt hL7.box hE (fun e => by have := (how.lt _ e.symm).1; omega)).cell 1
                   simp at p
                   go_wp2_with fail
                   exact ⟨_, rfl, gRefl _ _, rfl, hZ.light (by decide)⟩
                 · intro ys done W aa hE hn hF hD hZ hG hO
                   replace hE : w7.grownBy W u.2.ownBlock := hE
                   have o1 := hO 13 (by kernel_rfl)
                   replace o1 : aa.tmps[13]? = some (.int .i64 (t : Int)) := o1
                   go_wp2_with fail
                   exact ⟨_, rfl, gRefl _ _, rfl, hZ.light (by decide)⟩
                 · intro ys done W aa hE hn hF hD hZ hG hO
                   replace hE : w7.grownBy W u.2.ownBlock := hE
                   have o1 := hO 3 (by kernel_rfl)
                   replace o1 : aa.tmps[3]? = some (.pointer (some ⟨q, 0, none⟩)) := o1
                   go_wp2_with fail
                   exact ⟨_, rfl, gRefl _ _, rfl, hZ.light (by decide)⟩
                 · intro ys done W aa hE hn hF hD hZ hG hO
                   replace hE : w7.grownBy W u.2.ownBlock := hE
                   have v3 := hF 3 (by decide) (hD 3 (by kernel_rfl))
                   replace v3 : ys 3 = .pointer (some ⟨q, 1, none⟩) := v3
                   have g3 := hG 3 146 rfl (Nat.le_of_ble_eq_true rfl)
                   rw [v3] at g3
                   have p := (gAt hL7.box hE (fun e => by have := (how.lt _ e.symm).1; omega)).cell 1
                   simp at p
                   go_wp2_with fail
                   exact ⟨_, rfl, gRefl _ _, rfl, hZ.light (by decide)⟩
                 · intro ys done W aa hE hn hF hD hZ hG hO
                   replace hE : w7.grownBy W u.2.ownBlock := hE
                   have o1 := hO 13 (by kernel_rfl)
                   replace o1 : aa.tmps[13]? = some (.int .i64 (t : Int)) := o1
                   go_wp2_with fail
                   exact ⟨_, rfl, gRefl _ _, rfl, hZ.light (by decide)⟩
                 · intro ys done W aa hE hn hF hD hZ hG hO
                   replace hE : w7.grownBy W u.2.ownBlock := hE
                   have v4 := hF 4 (by decide) (hD 4 (by kernel_rfl))
                   replace v4 : ys 4 = .slice (some ⟨gC, 0, none⟩) us.length capC := v4
                   have g4 := hG 4 147 rfl (Nat.le_of_ble_eq_true rfl)
                   rw [v4] at g4
                   have v5 := hF 5 (by decide) (hD 5 (by kernel_rfl))
                   replace v5 : ys 5 = .int .i64 (t : Int) := v5
                   have g5 := hG 5 148 rfl (Nat.le_of_ble_eq_true rfl)
                   rw [v5] at g5
                   go_wp2_with fail
                   exact ⟨_, rfl, gRefl _ _, rfl, hZ.light (by decide)⟩
                 · intro ys done W aa hE hn hF hD hZ hG hO
                   replace hE : w7.grownBy W u.2.ownBlock := hE
                   have v6 := hF 6 (by decide) (hD 6 (by kernel_rfl))
                   replace v6 : ys 6 = .pointer (some ⟨gC, t * 2, none⟩) := v6
                   have g6 := hG 6 149 rfl (Nat.le_of_ble_eq_true rfl)
                   rw [v6] at g6
                   go_wp2_with fail
                   exact ⟨_, rfl, gRefl _ _, rfl, hZ.light (by decide)⟩
                 · intro ys done W aa hE hn hF hD hZ hG hO
                   replace hE : w7.grownBy W u.2.ownBlock := hE
                   have v7 := hF 7 (by decide) (hD 7 (by kernel_rfl))
                   replace v7 : ys 7 = .pointer (some ⟨gC, t * 2 + 1, none⟩) := v7
                   have g7 := hG 7 150 rfl (Nat.le_of_ble_eq_true rfl)
                   rw [v7] at g7
                   have hcr := (hL7.cr.kept hE (rowApart hL7.cr how (by decide))).cellAt (t * 2 + 1) (by omega)
                   rw [show t * 2 + 1 = 2 * t + 1 by omega, (flatC_get hu).2, show 2 * t + 1 = t * 2 + 1 by omega] at hcr
                   go_wp2_with fail
                   exact ⟨_, rfl, gRefl _ _, rfl, hZ.light (by decide)⟩
                 · intro ys done W aa hE hn hF hD hZ hG hO
                   replace hE : w7.grownBy W u.2.ownBlock := hE
                   have o1 := hO 12 (by kernel_rfl)
                   replace o1 : aa.tmps[12]? = some (.int .i64 (r : Int)) := o1
                   go_wp2_with fail
                   exact ⟨_, rfl, gRefl _ _, rfl, hZ.light (by decide)⟩
                 · intro ys done W aa hE hn hF hD hZ hG hO
                   replace hE : w7.grownBy W u.2.ownBlock := hE
                   have v9 := hF 9 (by decide) (hD 9 (by kernel_rfl))
                   replace v9 : ys 9 = .int .i64 (r : Int) := v9
                   have g9 := hG 9 152 rfl (Nat.le_of_ble_eq_true rfl)
                   rw [v9] at g9
                   go_wp2_with fail
                   exact ⟨_, rfl, World.grownBy_alloc _ _ _, ⟨_, rfl, hE.size, At.new _ _ _⟩, (hZ.alloc _).light (by decide)⟩
                 · intro ys done W aa hE hn hF hD hZ hG hO
                   replace hE : w7.grownBy W u.2.ownBlock := hE
                   have v8 := hF 8 (by decide) (hD 8 (by kernel_rfl))
                   replace v8 : ys 8 = u.2 := v8
                   have g8 := hG 8 151 rfl (Nat.le_of_ble_eq_true rfl)
                   rw [v8] at g8
                   have v10 := hF 10 (by decide) (hD 10 (by kernel_rfl))
                   replace v10 : ∃ g1 : Nat, ys 10 = .slice (some ⟨g1, 0, none⟩) 1 1 ∧ w7.heap.size ≤ g1 ∧ At W g1 3 #[.int .i64 (r : Int)] := v10
                   have g10 := hG 10 153 rfl (Nat.le_of_ble_eq_true rfl)
                   obtain ⟨g1, e10, hg1, hgA⟩ := v10
                   rw [e10] at g10
                   have hown := hZ.1 hn
                   have hsz7 := hL7.box.inside
                   have hsz8 := hE.size
                   refine (wpList_append_own_at _ rfl _ _ 46 rfl (q + 1) 3 iI (.int .i64 0) 1 8 Tryd.underlying46 hiI hI0 hIs hIb rfl (by decide) _ _ _ (show aa.tmps.getD 151 undef = u.2 by simp [g8]) hown ⟨g1, 0, none⟩ 1 1 [.int .i64 (r : Int)] (show aa.tmps.getD 153 undef = _ by simp [g10]) rfl (World.news_of_block (cs := #[.int .i64 (r : Int)]) (t := 3) (fr := (0, 0)) hgA) (by simp [Value.oneCell']) (by unfold maxLen; omega) (by omega) (by omega) ?_)
                   intro v7 w8 hown7 hgrow7 hnil7 hat7
                   refine wpList_nil ?_
                   exact ⟨v7, rfl, hgrow7, trivial, ⟨fun h => by simp [Sched.mark] at h, fun _ => by rw [upd_eqD]; exact ⟨hown7, by rcases hat7 with h | h; exact Or.inl h; exact Or.inr ⟨_, h, hsz8⟩⟩⟩⟩
                case hQ5 =>
                 intro ys W hE5 hF hZ
                 obtain ⟨done, hdo, hZ⟩ := hZ
                 obtain ⟨hown5, hat5⟩ := hZ.2 (hdo 11 (by decide))
                 have v1 : ys 1 = .slice (some ⟨gC, 0, none⟩) us.length capC := hF 1 (by decide)
                 have v2 : ys 2 = .int .i64 (t : Int) := hF 2 (by decide)
                 obtain ⟨gO, capO, hO, hO1, _, _, _⟩ := rowSome hown5 (by omega)
                 have hL8 := hL7.own hu hx (r := (r : Int)) hown5 hE5 hat5
                 rw [hO, show 2 * t + 1 = t * 2 + 1 by omega] at hL8
                 have hcr5 := hL7.cr.kept hE5 (rowApart hL7.cr how (by decide))
                 have c0 := hcr5.cellAt (t * 2 + 1) (by omega)
                 rw [show t * 2 + 1 = 2 * t + 1 by omega, (flatC_get hu).2, show 2 * t + 1 = t * 2 + 1 by omega] at c0
                 have cf := hcr5.frozenAt (t * 2 + 1)
                 have hB8 := (hB7.grown hE5 (fun x e => by have := (how.lt _ e).1; omega)).grown (put_grown W gC (t * 2 + 1) (.slice (some ⟨gO, 0, none⟩) (x.own.length + 1) capO)) (fun x e => by cases e; omega)
                 have hlu : (us.set t (u.1, Value.slice (some ⟨gO, 0, none⟩) (x.own.length + 1) capO)).length = us.length := List.length_set
                 have hlc : (cs.set t ⟨x.fleet, x.own ++ [(r : Int)]⟩).length = cs.length := List.length_set
                 have hp8 : ((cs.set t ⟨x.fleet, x.own ++ [(r : Int)]⟩).flatMap (·.own)).Perm (upI (r + 1)) := by
                   rw [upI_snoc]
                   exact (own_more (r : Int) hx).trans (List.Perm.append_right _ hperm)
                 simp only [List.take_succ_cons, List.take_zero, List.drop_succ_cons, List.drop_zero, Sched.fill, v1, v2]
                 rw [show ys (0 + 1 + 1 + 1 + 1 + 1 + 1 + 1 + 1 + 1 + 1 + 1) = .slice (some ⟨gO, 0, none⟩) (x.own.length + 1) capO from hO]
                 clear hF hZ hdo v1 v2 hO hown5 hat5 hE5 hcr5 hL7 how hB7 hperm
                 go_simp
                 go_upto_region 28 with fail
                 obtain ⟨w9, hw9⟩ : ∃ w9, W.setCell ⟨gC, t * 2 + 1, none⟩ (.slice (some ⟨gO, 0, none⟩) (x.own.length + 1) capO) = w9 := ⟨_, rfl⟩
                 rw [hw9] at hL8 hB8 ⊢
                 rw [← hlu] at hL8
                 have hcl8 : (cs.set t ⟨x.fleet, x.own ++ [(r : Int)]⟩).length ≤ j ∧ j ≤ (cs.set t ⟨x.fleet, x.own ++ [(r : Int)]⟩).length ∧ (us.set t (u.1, Value.slice (some ⟨gO, 0, none⟩) (x.own.length + 1) capO)).length ≤ j ∧ j ≤ (us.set t (u.1, Value.slice (some ⟨gO, 0, none⟩) (x.own.length + 1) capO)).length ∧ ds.length ≤ j ∧ j ≤ ds.length := by rw [hlu, hlc]; exact hcl
                 clear c0 cf hw9 hlu hlc hcl
                 generalize us.set t (u.1, Value.slice (some ⟨gO, 0, none⟩) (x.own.length + 1) capO) = us2 at *
                 generalize cs.set t ⟨x.fleet, x.own ++ [(r : Int)]⟩ = cs2 at *
                 clear hu hx hxo hO1
                 obtain ⟨xL, cL, rfl, hcL1, hcL2⟩ := rowSlice hL8.lt
                 have p2 := hL8.box.cell 2
                 simp at p2
                 go_wp2_with fail
                 refine (next_any _ g sv bs a b c (k2 + 1) 3 hB8.dr (by omega) (by omega)).mono ?_
                 rintro e w10 ⟨⟨r2, rfl, hr3, hr4⟩, hd9, hg9⟩
                 have hB9 := hB8.turn hg9 hd9
                 have hL9 := hL8.free hg9 (fun x e => by cases e; left; omega)
                 clear hB8 hL8 hd9 hg9 p2
                 by_cases hgt : 0 < r2
                 · go_upto_region 29 with fail
                   refine Sched.wp_region_sched 7 (fun W W' => W.grownBy W' (some g)) (V29 g q w10.heap.size (.slice xL ls.length cL) (r : Int)) (ZD g sv bs a b c (k2 + 1 + 1) [(4, 1)]) (by kernel_rfl) (by kernel_rfl) (by kernel_rfl) (fun h1 h2 => h1.trans h2) (fun h1 h2 => V29.keep h1 (by have := hB9.in; omega) h2) (gDrew _ _) (fun ys => ZD.start hB9.dr.drewN ys) (Sched.StepsA.steps (by kernel_rfl) ?hS6) ?hQ6
                   case hS6 =>
                    simp only [List.take_succ_cons, List.take_zero]
                    refine ⟨?_, ?_, ?_, ?_, ?_, ?_, ?_, trivial⟩
                    · intro ys done W aa hE hn hF hD hZ hG hO
                      replace hE : w10.grownBy W (some g) := hE
                      have o1 := hO 3 (by kernel_rfl)
                      replace o1 : aa.tmps[3]? = some (.pointer (some ⟨q, 0, none⟩)) := o1
                      go_wp2_with fail
                      exact ⟨_, rfl, gRefl _ _, rfl, hZ.light (by decide)⟩
                    · intro ys done W aa hE hn hF hD hZ hG hO
                      replace hE : w10.grownBy W (some g) := hE
                      have v0 := hF 0 (by decide) (hD 0 (by kernel_rfl))
                      replace v0 : ys 0 = .pointer (some ⟨q, 2, none⟩) := v0
                      have g0 := hG 0 166 rfl (Nat.le_of_ble_eq_true rfl)
                      rw [v0] at g0
                      have p := (gAt hL9.box hE (by simp; omega)).cell 2
                      simp at p
                      go_wp2_with fail
                      exact ⟨_, rfl, gRefl _ _, rfl, hZ.light (by decide)⟩
                    · intro ys done W aa hE hn hF hD hZ hG hO
                      replace hE : w10.grownBy W (some g) := hE
                      have o1 := hO 12 (by kernel_rfl)
                      replace o1 : aa.tmps[12]? = some (.int .i64 (r : Int)) := o1
                      go_wp2_with fail
                      exact ⟨_, rfl, gRefl _ _, rfl, hZ.light (by decide)⟩
                    · intro ys done W aa hE hn hF hD hZ hG hO
                      replace hE : w10.grownBy W (some g) := hE
                      have o1 := hO 0 (by kernel_rfl)
                      replace o1 : aa.tmps[0]? = some (.pointer (some ⟨g, 0, none⟩)) := o1
                      go_wp2_with fail
                      exact ⟨_, rfl, gRefl _ _, rfl, hZ.light (by decide)⟩
                    · intro ys done W aa hE hn hF hD hZ hG hO
                      replace hE : w10.grownBy W (some g) := hE
                      have v3 := hF 3 (by decide) (hD 3 (by kernel_rfl))
                      replace v3 : ys 3 = .pointer (some ⟨g, 0, none⟩) := v3
                      have g3 := hG 3 169 rfl (Nat.le_of_ble_eq_true rfl)
                      rw [v3] at g3
                      have hsd := sumD_bound (done := done) (ps := [(4, 1)]) (by decide)
                      simp only [List.length_cons, List.length_nil] at hsd
                      go_wp2_with fail
                      refine (next_any _ g sv bs a b c _ 250 hZ.draft (by omega) (by omega)).mono ?_
                      rintro e W' ⟨⟨x, rfl, hx⟩, hd', hg'⟩
                      go_wp2_with fail
                      exact ⟨_, rfl, hg', ⟨x, rfl, hx⟩, ZD.hit hn hd' (by decide) (by decide)⟩
                    · intro ys done W aa hE hn hF hD hZ hG hO
                      replace hE : w10.grownBy W (some g) := hE
                      have v4 := hF 4 (by decide) (hD 4 (by kernel_rfl))
                      replace v4 : ∃ r : Int, ys 4 = .int .i64 r ∧ 0 ≤ r ∧ r < 250 := v4
                      obtain ⟨x4, e4, hx4⟩ := v4
                      have g4 := hG 4 170 rfl (Nat.le_of_ble_eq_true rfl)
                      rw [e4] at g4
                      have v2 := hF 2 (by decide) (hD 2 (by kernel_rfl))
                      replace v2 : ys 2 = .int .i64 (r : Int) := v2
                      have g2 := hG 2 168 rfl (Nat.le_of_ble_eq_true rfl)
                      rw [v2] at g2
                      go_wp2_with fail
                      exact ⟨_, rfl, gRefl _ _, ⟨⟨r, x4⟩, rfl, rfl, hx4⟩, hZ.light (by decide)⟩
                    · intro ys done W aa hE hn hF hD hZ hG hO
                      replace hE : w10.grownBy W (some g) := hE
                      have v5 := hF 5 (by decide) (hD 5 (by kernel_rfl))
                      replace v5 : ∃ q : Lt, ys 5 = .agg #[.int .i64 q.req, .int .i64 q.res] ∧ q.req = r ∧ 0 ≤ q.res ∧ q.res < 250 := v5
                      obtain ⟨q1, e, hq1⟩ := v5
                      have g5 := hG 5 171 rfl (Nat.le_of_ble_eq_true rfl)
                      rw [e] at g5
                      replace hq1 := Lib.hid hq1
                      go_wp2_with fail
                      exact ⟨_, rfl, World.grownBy_alloc _ _ _, ⟨_, q1, rfl, hE.size, At.new _ _ _, hq1.out⟩, hZ.alloc (by decide) _⟩
                   case hQ6 =>
                    intro ys W6 hE6 hF hZ
                    obtain ⟨done, hdo, hZ⟩ := hZ
                    have hdr := hZ.draft
                    have hsum : sumD [(4, 1)] done = 1 := by simp [sumD, hdo]
                    rw [hsum] at hdr
                    have hB10 := hB9.turn hE6 hdr
                    have hL10 := hL9.free hE6 (fun x e => by cases e; left; omega)
                    have v1 : ys 1 = .slice xL ls.length cL := hF 1 (by decide)
                    obtain ⟨g1, q1, e6, hg1, hA1, hq1c⟩ : ∃ (g1 : Nat) (q : Lt), ys 6 = .slice (some ⟨g1, 0, none⟩) 1 1 ∧ w10.heap.size ≤ g1 ∧ At W6 g1 59 #[.int .i64 q.req, .int .i64 q.res] ∧ q.req = r ∧ 0 ≤ q.res ∧ q.res < 250 := hF 6 (by decide)
                    simp only [List.take_succ_cons, List.take_zero, List.drop_succ_cons, List.drop_zero, Sched.fill, v1, e6]
                    clear hF hZ hdo hsum v1 e6 hE6 hB9 hL9 hdr
                    have hsz := hL10.box.inside
                    go_simp
                    go_wp2_with (at_builtin; refine wpList_append_own _ rfl _ _ 30 rfl (q + 1) 59 iL (.agg #[.int .i64 0, .int .i64 0]) 2 16 (by kernel_rfl) hiL hLL0 hLs hLb rfl (by decide) _ _ _ rfl hL10.lt ⟨g1, 0, none⟩ 1 1 [.int .i64 q1.req, .int .i64 q1.res] rfl rfl (World.news_of_block (cs := #[.int .i64 q1.req, .int .i64 q1.res]) (t := 59) (fr := (0, 0)) hA1) (by simp [Value.oneCell']) (by unfold maxLen; omega) (by omega) (by omega) ?_; intro v7 w11 hown7 hgrow7 hnil7; have hbx7 := gAt hL10.box hgrow7 (fun e => by have := (hL10.lt.lt _ e.symm).1; omega); have q2 := hbx7.cell 2; simp at q2; have qf2 := hbx7.free 2; obtain ⟨g7, cap7, h7, hg7⟩ := rowOpen hown7; subst h7)
                    have hL11 := hL10.more (l := q1) hown7 hgrow7
                    have hB11 := (hB10.grown hgrow7 (fun x e => by have := (hL10.lt.lt _ e).1; omega)).grown (put_grown w11 q 2 (.slice (some ⟨g7, 0, none⟩) (ls.length + 1) cap7)) (fun x e => by cases e; exact hq1)
                    clear hB10 hL10 hown7 hgrow7 hbx7 hnil7 q2 qf2 hA1
                    go_roundw
                    case rel => exact ⟨r + 1, k2 + 1 + 1 + 1, _, us2, cs2, ls ++ [q1], by go_num, hlt, hcl8, by omega, hB11, hL11, hp8, fun l hl => by
                      rcases List.mem_append.1 hl with hl | hl
                      · have := hls l hl; omega
                      · simp at hl; subst hl; omega, by
                      rw [List.map_append, List.nodup_append]
                      refine ⟨hnd, by simp, fun x hx y hy => ?_⟩
                      obtain ⟨l, hl, rfl⟩ := List.mem_map.1 hx
                      simp at hy
                      have := hls l hl
                      omega, by simp; omega⟩
                    case measure => simp [intOf]; omega
                 · go_wp2_with fail
                   go_roundw
                   case rel => exact ⟨r + 1, k2 + 1 + 1, _, us2, cs2, ls, by go_num, hlt, hcl8, by omega, hB9, hL9, hp8, fun l hl => by have := hls l hl; omega, hnd, by omega⟩
                   case measure => simp [intOf]; omega
              · have hri : (r : Int) = i := by omega
                obtain ⟨xR, cR, rfl, _, _⟩ := rowSlice hL.rq
                obtain ⟨xL, cL, rfl, _, _⟩ := rowSlice hL.lt
                obtain ⟨xD, cD, rfl, _, _⟩ := rowSlice hL.du
                have hfin : Drawn ⟨qs, cs, ls, cm, rv, sch, ds.length⟩ := hL.drawn hqg'.out (by rw [hql'.out]; omega) (by omega) (by omega) (by omega) hterm (by rw [hql'.out, show i = r by omega]; exact hperm) (fun l hl => by have := hls l hl; rw [hql'.out]; omega) hnd
                have hL' := Lib.hid hL
                have hB' := Lib.hid hBW
                have hfin' := Lib.hid hfin
                have p0 := hL.box.cell 0
                have p1 := hL.box.cell 1
                have p2 := hL.box.cell 2
                have p3 := hL.box.cell 3
                have p4 := hL.box.cell 4
                have p5 := hL.box.cell 5
                have p6 := hL.box.cell 6
                simp at p0 p1 p2 p3 p4 p5 p6
                have r0 := hBW.res.cell 0
                have r1 := hBW.res.cell 1
                have r2 := hBW.res.cell 2
                have r3 := hBW.res.cell 3
                have r4 := hBW.res.cell 4
                have r5 := hBW.res.cell 5
                have r6 := hBW.res.cell 6
                simp [zScene] at r0 r1 r2 r3 r4 r5 r6
                have rf := hBW.res.free
                clear hL hBW hperm hls hnd hll hcl hk2 hfin hqg' hql' hterm
                go_wp2_with fail
                have hB := hB'.out
                have hP := ((((((hB.res.put 0 (.slice xR qs.length cR)).put 1 (.slice (some ⟨gC, 0, none⟩) us.length capC)).put 2 (.slice xL ls.length cL)).put 3 (.int .i64 cm)).put 4 (.int .i64 rv)).put 5 (.int .i64 sch)).put 6 (.slice xD ds.length cD)
                simp [zScene] at hP
                have hG : wr.grownBy _ (some w.heap.size) := ((((((put_grown wr w.heap.size 0 (.slice xR qs.length cR)).trans (put_grown _ w.heap.size 1 (.slice (some ⟨gC, 0, none⟩) us.length capC))).trans (put_grown _ w.heap.size 2 (.slice xL ls.length cL))).trans (put_grown _ w.heap.size 3 (.int .i64 cm))).trans (put_grown _ w.heap.size 4 (.int .i64 rv))).trans (put_grown _ w.heap.size 5 (.int .i64 sch))).trans (put_grown _ w.heap.size 6 (.slice xD ds.length cD))
                have hL2 := hL'.out.free hG (fun x e => by cases e; left; omega)
                exact bodyPost_ret (res_scene rfl rfl hP) rfl ⟨_, _, _, _, us, ⟨qs, cs, ls, cm, rv, sch, ds.length⟩, k2, rfl, hL2.scene, ⟨⟨ds, rfl, hL2.draws, hL2.one⟩, hL2.plain⟩, hfin'.out, hB.dr.grown hG (fun x e => by cases e; exact hB.gn), own_grown hB.gr hG (fun x e => by cases e; exact Nat.le_refl _)⟩
end Go.Proofs.YtlkijbakfoabaaaDoor.Scene

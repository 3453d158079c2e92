/-
  Contract of a turn's Turned: a scene with one thing otherwise, in rows of which some are the call's own.
-/
import Derived.Test.YtlkijbakfoabaaaDoorTellRows
namespace Go.Proofs.YtlkijbakfoabaaaDoor.Scene
open Go.RowKit Go.Sort Go.Proofs.YtlkijbakfoabaaaDoor.Mem
set_option linter.unusedVariables false

def V20 (T gl n cap cN N0 : Nat) (own : Value) (N : Int) : Nat → Value → World → Prop
  | 0, y, _ => y = .slice (some ⟨gl, 0, none⟩) n cap
  | 1, y, _ => y = .int .i64 (cN : Int)
  | 2, y, _ => y = .slice (some ⟨gl, 0, none⟩) n cap
  | 3, y, _ => y = .int .i64 (cN : Int)
  | 4, y, _ => y = .pointer (some ⟨gl, cN * 2, none⟩)
  | 5, y, _ => y = .pointer (some ⟨gl, cN * 2 + 1, none⟩)
  | 6, y, _ => y = own
  | 7, y, _ => y = .pointer (some ⟨T, 2, none⟩)
  | 8, y, _ => y = .int .i64 N
  | 9, y, W => ∃ g1 : Nat, y = .slice (some ⟨g1, 0, none⟩) 1 1 ∧ N0 ≤ g1 ∧ At W g1 3 #[.int .i64 N]
  | _, _, _ => True
theorem V20.keep {T gl n cap cN N0 : Nat} {own : Value} {N : Int} (hN : ∀ b, own.ownBlock = some b → b < N0) {i : Nat} {v : Value} {W V : World} (h : V20 T gl n cap cN N0 own N i v W) (hg : W.grownBy V own.ownBlock) : V20 T gl n cap cN N0 own N i v V := by
  match i with
  | 0 | 1 | 2 | 3 | 4 | 5 | 6 | 7 | 8 => exact h
  | 9 =>
    obtain ⟨g, e, h1, h2⟩ := h
    exact ⟨g, e, h1, gAt h2 hg (fun e => by have := hN g e.symm; omega)⟩
  | i + 10 => trivial
def Z20 (B : Nat) (own : Value) (xs : List Int) (N : Int) (done : Nat → Bool) (ys : Nat → Value) (W : World) : Prop :=
  (done 10 = false → W.ownsRow B 3 1 own xs.length (flatI xs)) ∧
  (done 10 = true → W.ownsRow B 3 1 (ys 10) (xs.length + 1) (flatI xs ++ [.int .i64 N]))
theorem Z20.light {B i : Nat} {own : Value} {xs : List Int} {N : Int} {done : Nat → Bool} {ys : Nat → Value} {W : World} {v : Value} (h : Z20 B own xs N done ys W) (hi : i ≠ 10) : Z20 B own xs N (Sched.mark done i) (Sched.upd ys i v) W := by
  have e1 : Sched.mark done i 10 = done 10 := if_neg (fun e => hi e.symm)
  have e2 : Sched.upd ys i v 10 = ys 10 := by simp [Sched.upd, show ¬ 10 = i from fun e => hi e.symm]
  exact ⟨fun hd => h.1 (by rw [← e1]; exact hd), fun hd => by rw [e2]; exact h.2 (by rw [← e1]; exact hd)⟩
theorem Z20.alloc {B : Nat} {own : Value} {xs : List Int} {N : Int} {done : Nat → Bool} {ys : Nat → Value} {W : World} (h : Z20 B own xs N done ys W) (o : Obj) : Z20 B own xs N done ys (W.alloc o) := ⟨fun hd => (h.1 hd).alloc o, fun hd => (h.2 hd).alloc o⟩

set_option maxRecDepth 100000 in
set_option maxHeartbeats 8000000 in
theorem turnone_any (w : World) (wh ax N : Int) (hwh : 0 ≤ wh ∧ wh < 256) (hax : 0 ≤ ax ∧ ax < 256) (hN : -9223372036854775808 ≤ N ∧ N ≤ 9223372036854775807) (vR vC vL vD : Value) (us : List (Value × Value)) (s : Sc) (hS : SceneAt w.heap.size w vR vC vL vD us s)
    (hds : ∃ ds : List Value, ds.length = s.draws ∧ RowB w.heap.size w vD 1 (ds.map fun d => [d]) ∧ ∀ d ∈ ds, d.oneCell' = true) (hpl : Plain vR ∧ Plain vL ∧ ∀ u ∈ us, Plain u.1 ∧ Plain u.2) (hdr : Drawn s) :
    Calls Tryd.prog 8 #[.agg #[.int .u8 wh, .int .u8 ax, .int .i64 N], .agg #[vR, vC, vL, .int .i64 s.cm, .int .i64 s.rv, .int .i64 s.sch, vD]] w fun e w' =>
      (∃ vR' vC' vL' vD' us' s', e = .returned (.agg #[vR', vC', vL', .int .i64 s'.cm, .int .i64 s'.rv, .int .i64 s'.sch, vD']) ∧ SceneAt w'.heap.size w' vR' vC' vL' vD' us' s' ∧ Fair s' ∧ s'.reqs.length ≤ 100 ∧ s'.cars.length ≤ 100) ∧ Below w.heap.size w w' := by
  obtain ⟨xR, cR, rfl, _, _, _⟩ := id hS.reqs
  obtain ⟨xC, cC, rfl, _, hcC, _⟩ := id hS.cars.row
  obtain ⟨xL, cL, rfl, _, _, _⟩ := id hS.lots
  obtain ⟨xD, cD, rfl, hD1, hD2⟩ := id hS.draws
  simp only [List.length_map] at hS hpl hcC hds ⊢
  have hr64 := hdr.num
  have hc8 := hdr.cnum
  have hl16 := hdr.lnum
  have hdn : s.draws ≤ s.cars.length ∧ s.cars.length ≤ s.draws := by rw [hdr.draw]; exact ⟨Nat.le_refl _, Nat.le_refl _⟩
  have hus8 : us.length ≤ s.cars.length ∧ s.cars.length ≤ us.length := by rw [hS.cars.len]; exact ⟨Nat.le_refl _, Nat.le_refl _⟩
  obtain ⟨W1, hW1⟩ : ∃ W1, ((w.alloc (.cells #[.int .u8 wh, .int .u8 ax, .int .i64 N] 27)).alloc (.cells #[.slice xR s.reqs.length cR, .slice xC us.length cC, .slice xL s.lots.length cL, .int .i64 s.cm, .int .i64 s.rv, .int .i64 s.sch, .slice xD s.draws cD] 33)).alloc (.cells zScene 33) = W1 := ⟨_, rfl⟩
  have hT : At W1 w.heap.size 27 #[.int .u8 wh, .int .u8 ax, .int .i64 N] := by rw [← hW1]; exact ((At.new _ _ _).alloc _).alloc _
  have hX : At W1 (w.heap.size + 1) 33 #[.slice xR s.reqs.length cR, .slice xC us.length cC, .slice xL s.lots.length cL, .int .i64 s.cm, .int .i64 s.rv, .int .i64 s.sch, .slice xD s.draws cD] := by rw [← hW1]; exact (At.new_ _ _ _ (by simp)).alloc _
  have hZ : At W1 (w.heap.size + 1 + 1) 33 zScene := by rw [← hW1]; exact At.new_ _ _ _ (by simp)
  have hb : Below w.heap.size w W1 := by rw [← hW1]; exact (((Below.refl _ _).alloc (Nat.le_refl _) _).alloc (by simp) _).alloc (by simp; omega) _
  have hbn := hb.size
  have hsz : w.heap.size + 3 ≤ W1.heap.size := by rw [← hW1]; simp
  obtain ⟨iR, hiR, hR0, hRs, hRb⟩ := info_parts info_rqD
  obtain ⟨iC, hiC, hC0, hCs, hCb⟩ := info_parts info_crD
  obtain ⟨iV, hiV, hV0, hVs, hVb⟩ := info_parts info_vhD
  obtain ⟨iL, hiL, hL0, hLs, hLb⟩ := info_parts info_ltD
  obtain ⟨iI, hiI, hI0, hIs, hIb⟩ := info_parts info_inD
  obtain ⟨iD, hiD, hD0, hDs, hDb⟩ := info_parts info_duD
  unfold zScene at hW1 hZ
  have hones := hS.cars.one_T
  have hSh := Lib.hid hS
  have hdrh := Lib.hid hdr
  have hplh := Lib.hid hpl
  have hdsh := Lib.hid hds
  clear hS hdr hds hpl
  go_enter Tryd.func8, Tryd.ntmps8
  go_upto_region 1 with fail
  skip
  clear hW1
  have ho := World.ownsRow_made (base := w.heap.size + 3) (e := 66) (size := 10) W1 #[] 0 hsz (Nat.zero_le _) rfl
  have p := (hX.alloc (.cells #[] 66)).cell 0
  simp at p
  have hnews := newsT (len := s.reqs.length) hSh.out.reqs (hb.trans ((belowAT W1 (.cells #[] 66)).mono hbn)) (rowsLen (f := rqV) (m := 10) (fun _ => rfl) _) (by decide)
  go_upto_region 2 with (at_builtin; go_loud (refine wpList_append_plain rfl _ _ 28 rfl (w.heap.size + 3) 66 iR (.agg #[.int .i64 0, .int .i64 0, .int .i64 0, .int .i64 0, .int .i64 0, .int .i64 0, .int .i64 0, .int .i64 0, .int .i64 0, .int .i64 0]) 10 80 (by kernel_rfl) hiR hR0 hRs hRb rfl (by decide) _ _ _ rfl ho (.slice xR s.reqs.length cR) s.reqs.length ⟨_, _, rfl⟩ hplh.out.1 (((s.reqs).map rqV).flatten) rfl (flat_len (f := rqV) (m := 10) (fun _ => rfl) _) hnews (onesT (f := rqV) (fun x y hy => by simp [rqV] at hy; rcases hy with rfl | rfl | rfl | rfl | rfl | rfl | rfl | rfl | rfl | rfl <;> rfl) _) (by unfold maxLen; omega) (by omega) (by simp; omega) ?_; intro v7 w7 hown7 hgrow7; simp only [Nat.zero_add, List.nil_append] at hown7; obtain ⟨y7, c7, h7, _, _⟩ := rowSlice hown7; subst h7; have hbx7 := gAt (hX.alloc (.cells #[] 66)) hgrow7 (fun e => by have := (ho.lt _ e.symm).1; omega); have q7 := hbx7.cell 0; simp at q7; have qf7 := hbx7.free 0))
  clear p hnews hbx7 q7 qf7
  obtain ⟨yR, dR, hy1, hy2⟩ : ∃ y c, y = y7 ∧ c = c7 := ⟨_, _, rfl, rfl⟩
  rw [← hy1, ← hy2] at hown7 ⊢
  replace hT := hT.alloc (.cells #[] 66)
  replace hX := hX.alloc (.cells #[] 66)
  replace hZ := hZ.alloc (.cells #[] 66)
  replace hb := hb.trans ((belowAT W1 (.cells #[] 66)).mono hbn)
  replace hbn : w.heap.size ≤ (W1.alloc (.cells #[] 66)).heap.size := hb.size
  replace hsz : w.heap.size + 3 ≤ (W1.alloc (.cells #[] 66)).heap.size := by simp; omega
  replace hT := gAt hT hgrow7 (fun e => by have := (ho.lt _ e.symm).1; omega)
  replace hX := gAt hX hgrow7 (fun e => by have := (ho.lt _ e.symm).1; omega)
  replace hZ := gAt hZ hgrow7 (fun e => by have := (ho.lt _ e.symm).1; omega)
  replace hb := hb.grown hgrow7 hbn (fun x e => by have := (ho.lt _ e).1; omega)
  replace hsz := Nat.le_trans hsz hgrow7.size
  replace hbn := hb.size
  clear hgrow7 ho hy1 hy2
  have hR := hown7
  clear hown7
  have hP := put_grown w7 (w.heap.size + 1) 0 (.slice yR s.reqs.length dR)
  have hX2 := hX.put 0 (.slice yR s.reqs.length dR)
  replace hT := hT.far (b := w.heap.size + 1) (by omega) 0 (.slice yR s.reqs.length dR)
  replace hZ := hZ.far (b := w.heap.size + 1) (by omega) 0 (.slice yR s.reqs.length dR)
  replace hR := hR.kept hP (rowNe hR (by omega))
  replace hb := hb.grown hP hbn (fun x e => by cases e; omega)
  replace hsz := Nat.le_trans hsz hP.size
  replace hbn := hb.size
  replace hX : At (w7.setCell ⟨w.heap.size + 1, 0, none⟩ (.slice yR s.reqs.length dR)) (w.heap.size + 1) 33 #[.slice yR s.reqs.length dR, .slice xC us.length cC, .slice xL s.lots.length cL, .int .i64 s.cm, .int .i64 s.rv, .int .i64 s.sch, .slice xD s.draws cD] := by simpa using hX2
  clear hX2 hP
  obtain ⟨W2, hWn⟩ : ∃ X, w7.setCell ⟨w.heap.size + 1, 0, none⟩ (.slice yR s.reqs.length dR) = X := ⟨_, rfl⟩
  rw [hWn] at hT hX hZ hb hbn hsz hR ⊢
  clear hWn
  have ho := World.ownsRow_made (base := w.heap.size + 3) (e := 59) (size := 2) W2 #[] 0 hsz (Nat.zero_le _) rfl
  have p := (hX.alloc (.cells #[] 59)).cell 2
  simp at p
  have hnews := newsT (len := s.lots.length) hSh.out.lots (hb.trans ((belowAT W2 (.cells #[] 59)).mono hbn)) (rowsLen (f := ltV) (m := 2) (fun _ => rfl) _) (by decide)
  go_upto_region 3 with (at_builtin; go_loud (refine wpList_append_plain rfl _ _ 30 rfl (w.heap.size + 3) 59 iL (.agg #[.int .i64 0, .int .i64 0]) 2 16 (by kernel_rfl) hiL hL0 hLs hLb rfl (by decide) _ _ _ rfl ho (.slice xL s.lots.length cL) s.lots.length ⟨_, _, rfl⟩ hplh.out.2.1 (((s.lots).map ltV).flatten) rfl (flat_len (f := ltV) (m := 2) (fun _ => rfl) _) hnews (onesT (f := ltV) (fun x y hy => by simp [ltV] at hy; rcases hy with rfl | rfl <;> rfl) _) (by unfold maxLen; omega) (by omega) (by simp; omega) ?_; intro v7 w7 hown7 hgrow7; simp only [Nat.zero_add, List.nil_append] at hown7; obtain ⟨y7, c7, h7, _, _⟩ := rowSlice hown7; subst h7; have hbx7 := gAt (hX.alloc (.cells #[] 59)) hgrow7 (fun e => by have := (ho.lt _ e.symm).1; omega); have q7 := hbx7.cell 2; simp at q7; have qf7 := hbx7.free 2))
  clear p hnews hbx7 q7 qf7
  obtain ⟨yL, dL, hy1, hy2⟩ : ∃ y c, y = y7 ∧ c = c7 := ⟨_, _, rfl, rfl⟩
  rw [← hy1, ← hy2] at hown7 ⊢
  replace hT := hT.alloc (.cells #[] 59)
  replace hX := hX.alloc (.cells #[] 59)
  replace hZ := hZ.alloc (.cells #[] 59)
  replace hR := hR.alloc (.cells #[] 59)
  replace hb := hb.trans ((belowAT W2 (.cells #[] 59)).mono hbn)
  replace hbn : w.heap.size ≤ (W2.alloc (.cells #[] 59)).heap.size := hb.size
  replace hsz : w.heap.size + 3 ≤ (W2.alloc (.cells #[] 59)).heap.size := by simp; omega
  replace hT := gAt hT hgrow7 (fun e => by have := (ho.lt _ e.symm).1; omega)
  replace hX := gAt hX hgrow7 (fun e => by have := (ho.lt _ e.symm).1; omega)
  replace hZ := gAt hZ hgrow7 (fun e => by have := (ho.lt _ e.symm).1; omega)
  replace hR := hR.kept hgrow7 (rowApart hR ho (by decide))
  replace hb := hb.grown hgrow7 hbn (fun x e => by have := (ho.lt _ e).1; omega)
  replace hsz := Nat.le_trans hsz hgrow7.size
  replace hbn := hb.size
  clear hgrow7 ho hy1 hy2
  have hL := hown7
  clear hown7
  have hP := put_grown w7 (w.heap.size + 1) 2 (.slice yL s.lots.length dL)
  have hX2 := hX.put 2 (.slice yL s.lots.length dL)
  replace hT := hT.far (b := w.heap.size + 1) (by omega) 2 (.slice yL s.lots.length dL)
  replace hZ := hZ.far (b := w.heap.size + 1) (by omega) 2 (.slice yL s.lots.length dL)
  replace hR := hR.kept hP (rowNe hR (by omega))
  replace hL := hL.kept hP (rowNe hL (by omega))
  replace hb := hb.grown hP hbn (fun x e => by cases e; omega)
  replace hsz := Nat.le_trans hsz hP.size
  replace hbn := hb.size
  replace hX : At (w7.setCell ⟨w.heap.size + 1, 2, none⟩ (.slice yL s.lots.length dL)) (w.heap.size + 1) 33 #[.slice yR s.reqs.length dR, .slice xC us.length cC, .slice yL s.lots.length dL, .int .i64 s.cm, .int .i64 s.rv, .int .i64 s.sch, .slice xD s.draws cD] := by simpa using hX2
  clear hX2 hP
  obtain ⟨W3, hWn⟩ : ∃ X, w7.setCell ⟨w.heap.size + 1, 2, none⟩ (.slice yL s.lots.length dL) = X := ⟨_, rfl⟩
  rw [hWn] at hT hX hZ hb hbn hsz hR hL ⊢
  clear hWn
  have hplC : Plain (.slice xC us.length cC) := by
    obtain ⟨u0, hu0⟩ : ∃ u0, us[0]? = some u0 := ⟨_, List.getElem?_eq_getElem (by omega)⟩
    obtain ⟨g0, o0, h0, _⟩ := RowB.row hSh.out.cars.row (j := 0) (r := [u0.1, u0.2]) (by rw [List.getElem?_map, hu0]; rfl)
    rw [h0]
    exact Or.inr ⟨_, _, _, rfl⟩
  have ho := World.ownsRow_made (base := w.heap.size + 3) (e := 53) (size := 2) W3 #[] 0 hsz (Nat.zero_le _) rfl
  have p := (hX.alloc (.cells #[] 53)).cell 1
  simp at p
  have hnews := newsT (len := us.length) hSh.out.cars.row (hb.trans ((belowAT W3 (.cells #[] 53)).mono hbn)) (rowsLen (f := (fun u : Value × Value => [u.1, u.2])) (m := 2) (fun _ => rfl) _) (by decide)
  go_upto_region 5 with (at_builtin; go_loud (refine wpList_append_plain rfl _ _ 29 rfl (w.heap.size + 3) 53 iC (.agg #[.slice none 0 0, .slice none 0 0]) 2 48 (by kernel_rfl) hiC hC0 hCs hCb rfl (by decide) _ _ _ rfl ho (.slice xC us.length cC) us.length ⟨_, _, rfl⟩ hplC ((us.map (fun u : Value × Value => [u.1, u.2])).flatten) rfl (flat_len (f := (fun u : Value × Value => [u.1, u.2])) (m := 2) (fun _ => rfl) _) hnews hones (by unfold maxLen; omega) (by omega) (by simp; omega) ?_; intro v7 w7 hown7 hgrow7; simp only [Nat.zero_add, List.nil_append] at hown7; obtain ⟨y7, c7, h7, _, _⟩ := rowSlice hown7; subst h7; have hbx7 := gAt (hX.alloc (.cells #[] 53)) hgrow7 (fun e => by have := (ho.lt _ e.symm).1; omega); have q7 := hbx7.cell 1; simp at q7; have qf7 := hbx7.free 1))
  clear p hnews hbx7 q7 qf7 hplC
  obtain ⟨yC, dC, hy1, hy2⟩ : ∃ y c, y = y7 ∧ c = c7 := ⟨_, _, rfl, rfl⟩
  rw [← hy1, ← hy2] at hown7 ⊢
  replace hT := hT.alloc (.cells #[] 53)
  replace hX := hX.alloc (.cells #[] 53)
  replace hZ := hZ.alloc (.cells #[] 53)
  replace hR := hR.alloc (.cells #[] 53)
  replace hL := hL.alloc (.cells #[] 53)
  replace hb := hb.trans ((belowAT W3 (.cells #[] 53)).mono hbn)
  replace hbn : w.heap.size ≤ (W3.alloc (.cells #[] 53)).heap.size := hb.size
  replace hsz : w.heap.size + 3 ≤ (W3.alloc (.cells #[] 53)).heap.size := by simp; omega
  replace hT := gAt hT hgrow7 (fun e => by have := (ho.lt _ e.symm).1; omega)
  replace hX := gAt hX hgrow7 (fun e => by have := (ho.lt _ e.symm).1; omega)
  replace hZ := gAt hZ hgrow7 (fun e => by have := (ho.lt _ e.symm).1; omega)
  replace hR := hR.kept hgrow7 (rowApart hR ho (by decide))
  replace hL := hL.kept hgrow7 (rowApart hL ho (by decide))
  replace hb := hb.grown hgrow7 hbn (fun x e => by have := (ho.lt _ e).1; omega)
  replace hsz := Nat.le_trans hsz hgrow7.size
  replace hbn := hb.size
  clear hgrow7 ho hy1 hy2
  have hl : w7.ownsRow (w.heap.size + 3) 53 2 (.slice yC us.length dC) us.length (flatC us) := hown7
  clear hown7
  obtain ⟨gl, capl, hgl0, hgl, _, _, _⟩ := rowSome hl (by omega)
  obtain ⟨hgl1, hgl2⟩ : yC = some ⟨gl, 0, none⟩ ∧ dC = capl := by simpa using hgl0
  subst hgl1 hgl2
  clear hgl0
  have hP := put_grown w7 (w.heap.size + 1) 1 (.slice (some ⟨gl, 0, none⟩) us.length dC)
  have hX2 := hX.put 1 (.slice (some ⟨gl, 0, none⟩) us.length dC)
  replace hT := hT.far (b := w.heap.size + 1) (by omega) 1 (.slice (some ⟨gl, 0, none⟩) us.length dC)
  replace hZ := hZ.far (b := w.heap.size + 1) (by omega) 1 (.slice (some ⟨gl, 0, none⟩) us.length dC)
  replace hR := hR.kept hP (rowNe hR (by omega))
  replace hL := hL.kept hP (rowNe hL (by omega))
  replace hl := hl.kept hP (rowNe hl (by omega))
  replace hb := hb.grown hP hbn (fun x e => by cases e; omega)
  replace hsz := Nat.le_trans hsz hP.size
  replace hbn := hb.size
  replace hX : At (w7.setCell ⟨w.heap.size + 1, 1, none⟩ (.slice (some ⟨gl, 0, none⟩) us.length dC)) (w.heap.size + 1) 33 #[.slice yR s.reqs.length dR, .slice (some ⟨gl, 0, none⟩) us.length dC, .slice yL s.lots.length dL, .int .i64 s.cm, .int .i64 s.rv, .int .i64 s.sch, .slice xD s.draws cD] := by simpa using hX2
  clear hX2 hP
  obtain ⟨W4, hWn⟩ : ∃ X, w7.setCell ⟨w.heap.size + 1, 1, none⟩ (.slice (some ⟨gl, 0, none⟩) us.length dC) = X := ⟨_, rfl⟩
  rw [hWn] at hT hX hZ hb hbn hsz hR hL hl ⊢
  clear hWn
  obtain ⟨cN, hcN⟩ : ∃ cN : Nat, ax % (us.length : Int) = cN := ⟨(ax % (us.length : Int)).toNat, (Int.toNat_of_nonneg (Int.emod_nonneg _ (by omega))).symm⟩
  have hcl : cN < us.length := by
    have := Int.emod_lt_of_pos ax (show (0 : Int) < us.length by omega)
    omega
  have hz1 : ((us.length : Int) == 0) = false := beq_eq_false_iff_ne.2 (by omega)
  have t1 := hT.cell 1
  simp at t1
  go_upto_region 6 with fail
  try rw [hcN]
  clear t1 hz1 hcN
  obtain ⟨x, hx⟩ : ∃ x, s.cars[cN]? = some x := ⟨_, List.getElem?_eq_getElem (by omega)⟩
  obtain ⟨xF, capF, xO, capO, hu, hF1, hF2, hO1, hO2, _⟩ := hSh.out.cars.get hx
  have hcar := hSh.out.cars.car cN _ x hu hx
  have hplu := hplh.out.2.2 _ (List.mem_of_getElem? hu)
  have hfl4 := (hdrh.out.veh x (List.mem_of_getElem? hx)).1
  have how4 : x.own.length ≤ 64 := by
    have h1 := own_le hx
    rw [hdrh.out.cnt] at h1
    omega
  have hu' := Lib.hid hu
  have hx' := Lib.hid hx
  clear hu hx
  have ho := World.ownsRow_made (base := w.heap.size + 3) (e := 57) (size := 5) W4 #[] 0 hsz (Nat.zero_le _) rfl
  have p := (hl.alloc (.cells #[] 57)).cellAt (cN * 2) (by omega)
  rw [show cN * 2 = 2 * cN by omega, (flatC_get hu'.out).1, show 2 * cN = cN * 2 by omega] at p
  have hnews := newsT (len := x.fleet.length) hcar.fleet (hb.trans ((belowAT W4 (.cells #[] 57)).mono hbn)) (rowsLen (f := vhV) (m := 5) (fun _ => rfl) _) (by decide)
  go_upto_region 7 with (at_builtin; go_loud (refine wpList_append_plain rfl _ _ 51 rfl (w.heap.size + 3) 57 iV (.agg #[.int .i64 0, .int .i64 0, .int .i64 0, .int .i64 0, .int .i64 0]) 5 40 (by kernel_rfl) hiV hV0 hVs hVb rfl (by decide) _ _ _ rfl ho (.slice xF x.fleet.length capF) x.fleet.length ⟨_, _, rfl⟩ hplu.1 (((x.fleet).map vhV).flatten) rfl (flat_len (f := vhV) (m := 5) (fun _ => rfl) _) hnews (onesT (f := vhV) (fun x y hy => by simp [vhV] at hy; rcases hy with rfl | rfl | rfl | rfl | rfl <;> rfl) _) (by unfold maxLen; omega) (by omega) (by simp; omega) ?_; intro v7 w7 hown7 hgrow7; simp only [Nat.zero_add, List.nil_append] at hown7; obtain ⟨y7, c7, h7, _, _⟩ := rowSlice hown7; subst h7; have hl7 := (hl.alloc (.cells #[] 57)).kept hgrow7 (rowApart (hl.alloc _) ho (by decide)); have q7 := hl7.cellAt (cN * 2) (by omega); rw [show cN * 2 = 2 * cN by omega, (flatC_get hu'.out).1, show 2 * cN = cN * 2 by omega] at q7; have qf7 := hl7.frozenAt (cN * 2)))
  clear p hnews hl7 q7 qf7
  obtain ⟨yF, dF, hy1, hy2⟩ : ∃ y c, y = y7 ∧ c = c7 := ⟨_, _, rfl, rfl⟩
  rw [← hy1, ← hy2] at hown7 ⊢
  replace hT := hT.alloc (.cells #[] 57)
  replace hX := hX.alloc (.cells #[] 57)
  replace hZ := hZ.alloc (.cells #[] 57)
  replace hR := hR.alloc (.cells #[] 57)
  replace hL := hL.alloc (.cells #[] 57)
  replace hl := hl.alloc (.cells #[] 57)
  replace hb := hb.trans ((belowAT W4 (.cells #[] 57)).mono hbn)
  replace hbn : w.heap.size ≤ (W4.alloc (.cells #[] 57)).heap.size := hb.size
  replace hsz : w.heap.size + 3 ≤ (W4.alloc (.cells #[] 57)).heap.size := by simp; omega
  replace hT := gAt hT hgrow7 (fun e => by have := (ho.lt _ e.symm).1; omega)
  replace hX := gAt hX hgrow7 (fun e => by have := (ho.lt _ e.symm).1; omega)
  replace hZ := gAt hZ hgrow7 (fun e => by have := (ho.lt _ e.symm).1; omega)
  replace hR := hR.kept hgrow7 (rowApart hR ho (by decide))
  replace hL := hL.kept hgrow7 (rowApart hL ho (by decide))
  replace hl := hl.kept hgrow7 (rowApart hl ho (by decide))
  replace hb := hb.grown hgrow7 hbn (fun x e => by have := (ho.lt _ e).1; omega)
  replace hsz := Nat.le_trans hsz hgrow7.size
  replace hbn := hb.size
  clear hgrow7 ho hy1 hy2
  have hF := hown7
  clear hown7
  have hP := put_grown w7 gl (cN * 2) (.slice yF x.fleet.length dF)
  replace hT := hT.far (b := gl) (by omega) (cN * 2) (.slice yF x.fleet.length dF)
  replace hX := hX.far (b := gl) (by omega) (cN * 2) (.slice yF x.fleet.length dF)
  replace hZ := hZ.far (b := gl) (by omega) (cN * 2) (.slice yF x.fleet.length dF)
  replace hR := hR.kept hP (rowApart hR hl (by decide))
  replace hL := hL.kept hP (rowApart hL hl (by decide))
  replace hF := hF.kept hP (rowApart hF hl (by decide))
  replace hl := (hl.stored (cN * 2) (.slice yF x.fleet.length dF)).1
  rw [flatC_set0 (.slice yF x.fleet.length dF) hu'.out] at hl
  replace hb := hb.grown hP hbn (fun x e => by cases e; omega)
  replace hsz := Nat.le_trans hsz hP.size
  replace hbn := hb.size
  clear hP
  obtain ⟨W5, hWn⟩ : ∃ X, w7.setCell ⟨gl, cN * 2, none⟩ (.slice yF x.fleet.length dF) = X := ⟨_, rfl⟩
  rw [hWn] at hT hX hZ hb hbn hsz hR hL hl hF ⊢
  clear hWn
  have hu2 : (us.set cN (Value.slice yF x.fleet.length dF, (Value.slice xF x.fleet.length capF, Value.slice xO x.own.length capO).2))[cN]? = some (Value.slice yF x.fleet.length dF, (Value.slice xF x.fleet.length capF, Value.slice xO x.own.length capO).2) := List.getElem?_set_self hcl
  have ho := World.ownsRow_made (base := w.heap.size + 3) (e := 3) (size := 1) W5 #[] 0 hsz (Nat.zero_le _) rfl
  have p := (hl.alloc (.cells #[] 3)).cellAt (cN * 2 + 1) (by omega)
  rw [show cN * 2 + 1 = 2 * cN + 1 by omega, (flatC_get hu2).2, show 2 * cN + 1 = cN * 2 + 1 by omega] at p
  have hnews := newsT (len := x.own.length) hcar.own (hb.trans ((belowAT W5 (.cells #[] 3)).mono hbn)) (rowsLen (f := inV) (m := 1) (fun _ => rfl) _) (by decide)
  go_upto_region 8 with (at_builtin; go_loud (refine wpList_append_plain rfl _ _ 46 rfl (w.heap.size + 3) 3 iI (.int .i64 0) 1 8 (by kernel_rfl) hiI hI0 hIs hIb rfl (by decide) _ _ _ rfl ho (.slice xO x.own.length capO) x.own.length ⟨_, _, rfl⟩ hplu.2 (((x.own).map inV).flatten) rfl (flat_len (f := inV) (m := 1) (fun _ => rfl) _) hnews (onesT (f := inV) (fun x y hy => by simp [inV] at hy; rw [hy]; rfl) _) (by unfold maxLen; omega) (by omega) (by simp; omega) ?_; intro v7 w7 hown7 hgrow7; simp only [Nat.zero_add, List.nil_append] at hown7; obtain ⟨y7, c7, h7, _, _⟩ := rowSlice hown7; subst h7; have hl7 := (hl.alloc (.cells #[] 3)).kept hgrow7 (rowApart (hl.alloc _) ho (by decide)); have q7 := hl7.cellAt (cN * 2 + 1) (by omega); rw [show cN * 2 + 1 = 2 * cN + 1 by omega, (flatC_get hu2).2, show 2 * cN + 1 = cN * 2 + 1 by omega] at q7; have qf7 := hl7.frozenAt (cN * 2 + 1)))
  clear p hnews hl7 q7 qf7
  obtain ⟨yO, dO, hy1, hy2⟩ : ∃ y c, y = y7 ∧ c = c7 := ⟨_, _, rfl, rfl⟩
  rw [← hy1, ← hy2] at hown7 ⊢
  replace hT := hT.alloc (.cells #[] 3)
  replace hX := hX.alloc (.cells #[] 3)
  replace hZ := hZ.alloc (.cells #[] 3)
  replace hR := hR.alloc (.cells #[] 3)
  replace hL := hL.alloc (.cells #[] 3)
  replace hl := hl.alloc (.cells #[] 3)
  replace hF := hF.alloc (.cells #[] 3)
  replace hb := hb.trans ((belowAT W5 (.cells #[] 3)).mono hbn)
  replace hbn : w.heap.size ≤ (W5.alloc (.cells #[] 3)).heap.size := hb.size
  replace hsz : w.heap.size + 3 ≤ (W5.alloc (.cells #[] 3)).heap.size := by simp; omega
  replace hT := gAt hT hgrow7 (fun e => by have := (ho.lt _ e.symm).1; omega)
  replace hX := gAt hX hgrow7 (fun e => by have := (ho.lt _ e.symm).1; omega)
  replace hZ := gAt hZ hgrow7 (fun e => by have := (ho.lt _ e.symm).1; omega)
  replace hR := hR.kept hgrow7 (rowApart hR ho (by decide))
  replace hL := hL.kept hgrow7 (rowApart hL ho (by decide))
  replace hl := hl.kept hgrow7 (rowApart hl ho (by decide))
  replace hF := hF.kept hgrow7 (rowApart hF ho (by decide))
  replace hb := hb.grown hgrow7 hbn (fun x e => by have := (ho.lt _ e).1; omega)
  replace hsz := Nat.le_trans hsz hgrow7.size
  replace hbn := hb.size
  clear hgrow7 ho hy1 hy2
  have hO := hown7
  clear hown7
  have hP := put_grown w7 gl (cN * 2 + 1) (.slice yO x.own.length dO)
  replace hT := hT.far (b := gl) (by omega) (cN * 2 + 1) (.slice yO x.own.length dO)
  replace hX := hX.far (b := gl) (by omega) (cN * 2 + 1) (.slice yO x.own.length dO)
  replace hZ := hZ.far (b := gl) (by omega) (cN * 2 + 1) (.slice yO x.own.length dO)
  replace hR := hR.kept hP (rowApart hR hl (by decide))
  replace hL := hL.kept hP (rowApart hL hl (by decide))
  replace hF := hF.kept hP (rowApart hF hl (by decide))
  replace hO := hO.kept hP (rowApart hO hl (by decide))
  replace hl := (hl.stored (cN * 2 + 1) (.slice yO x.own.length dO)).1
  rw [show cN * 2 + 1 = 2 * cN + 1 by omega, flatC_set (.slice yO x.own.length dO) hu2, List.set_set, show 2 * cN + 1 = cN * 2 + 1 by omega] at hl
  replace hb := hb.grown hP hbn (fun x e => by cases e; omega)
  replace hsz := Nat.le_trans hsz hP.size
  replace hbn := hb.size
  clear hP
  obtain ⟨W6, hWn⟩ : ∃ X, w7.setCell ⟨gl, cN * 2 + 1, none⟩ (.slice yO x.own.length dO) = X := ⟨_, rfl⟩
  rw [hWn] at hT hX hZ hb hbn hsz hR hL hl hF hO ⊢
  clear hWn
  clear hu2
  replace hl : W6.ownsRow (w.heap.size + 3) 53 2 (.slice (some ⟨gl, 0, none⟩) us.length dC) us.length (flatC (us.set cN (.slice yF x.fleet.length dF, .slice yO x.own.length dO))) := hl
  have hu3 : (us.set cN (Value.slice yF x.fleet.length dF, Value.slice yO x.own.length dO))[cN]? = some (Value.slice yF x.fleet.length dF, Value.slice yO x.own.length dO) := List.getElem?_set_self hcl
  have hD : ∃ y cap, Value.slice xD s.draws cD = .slice y s.draws cap ∧ s.draws ≤ cap ∧ cap ≤ maxLen := ⟨_, _, rfl, hD1, hD2⟩
  have hown64 := (drawn_i64 hdrh.out).1 x (List.mem_of_getElem? hx'.out)
  have hlot64 := (drawn_i64 hdrh.out).2
  have hNI : I64 N := ⟨by omega, by omega⟩
  have hlt12 : wh % 12 < 12 := Int.emod_lt_of_pos wh (by omega)
  have hge12 : 0 ≤ wh % 12 := Int.emod_nonneg wh (by omega)
  have tt0 := hT.cell 0
  have tt1 := hT.cell 1
  have tt2 := hT.cell 2
  simp at tt0 tt1 tt2
  have hu3h := Lib.hid hu3
  clear hu3 hones
  by_cases hw0 : wh % 12 = 0
  · skip
    have x3 := hX.cell 3
    simp at x3
    have xf := hX.free 3
    go_upto_region 35 with fail
    clear x3 xf
    have hP := put_grown W6 (w.heap.size + 1) 3 (.int .i64 N)
    have hX2 := hX.put 3 (.int .i64 N)
    replace hT := hT.far (b := w.heap.size + 1) (by omega) 3 (.int .i64 N)
    replace hZ := hZ.far (b := w.heap.size + 1) (by omega) 3 (.int .i64 N)
    replace hR := hR.kept hP (rowNe hR (by omega))
    replace hL := hL.kept hP (rowNe hL (by omega))
    replace hl := hl.kept hP (rowNe hl (by omega))
    replace hF := hF.kept hP (rowNe hF (by omega))
    replace hO := hO.kept hP (rowNe hO (by omega))
    replace hb := hb.grown hP hbn (fun x e => by cases e; omega)
    replace hsz := Nat.le_trans hsz hP.size
    replace hbn := hb.size
    replace hX : At (W6.setCell ⟨w.heap.size + 1, 3, none⟩ (.int .i64 N)) (w.heap.size + 1) 33 #[.slice yR s.reqs.length dR, .slice (some ⟨gl, 0, none⟩) us.length dC, .slice yL s.lots.length dL, .int .i64 N, .int .i64 s.rv, .int .i64 s.sch, .slice xD s.draws cD] := by simpa using hX2
    clear hX2 hP
    obtain ⟨W7, hWn⟩ : ∃ X, W6.setCell ⟨w.heap.size + 1, 3, none⟩ (.int .i64 N) = X := ⟨_, rfl⟩
    rw [hWn] at hT hX hZ hb hbn hsz hR hL hl hF hO ⊢
    clear hWn
    have hSX := mkX (nd := s.draws) (N) (s.rv) (s.sch) hSh.out hb hu'.out hx'.out (reqs := s.reqs) (lots := s.lots) (fl := x.fleet) (own := x.own) hR hL hl hF hO hD
    have hfair := mkFair hdrh.out cN (reqs := s.reqs) (lots := s.lots) (fl := x.fleet) (own := x.own) (N) (s.rv) (s.sch) (s.draws) (by first | omega | (simp; omega) | simp) (by first | omega | (simp; omega) | simp) (by first | omega | (simp; omega) | simp) hown64 hlot64
    have p0 := hX.cell 0
    have p1 := hX.cell 1
    have p2 := hX.cell 2
    have p3 := hX.cell 3
    have p4 := hX.cell 4
    have p5 := hX.cell 5
    have p6 := hX.cell 6
    simp at p0 p1 p2 p3 p4 p5 p6
    have r0 := hZ.cell 0
    have r1 := hZ.cell 1
    have r2 := hZ.cell 2
    have r3 := hZ.cell 3
    have r4 := hZ.cell 4
    have r5 := hZ.cell 5
    have r6 := hZ.cell 6
    simp at r0 r1 r2 r3 r4 r5 r6
    have rf := hZ.free
    have hSXh := Lib.hid hSX
    have hfairh := Lib.hid hfair
    have hZh := Lib.hid hZ
    have hbh := Lib.hid hb
    clear hSX hfair hZ hb hX hT hR hL hl hF hO
    go_wp2_with fail
    have hP := (((((((hZh.out.put 0 (.slice yR s.reqs.length dR)).put 1 (.slice (some ⟨gl, 0, none⟩) us.length dC)).put 2 (.slice yL s.lots.length dL)).put 3 (.int .i64 N)).put 4 (.int .i64 s.rv)).put 5 (.int .i64 s.sch)).put 6 (.slice xD s.draws cD))
    simp at hP
    have hG : W7.grownBy _ (some (w.heap.size + 1 + 1)) := ((((((put_grown _ (w.heap.size + 1 + 1) 0 (.slice yR s.reqs.length dR)).trans (put_grown _ (w.heap.size + 1 + 1) 1 (.slice (some ⟨gl, 0, none⟩) us.length dC))).trans (put_grown _ (w.heap.size + 1 + 1) 2 (.slice yL s.lots.length dL))).trans (put_grown _ (w.heap.size + 1 + 1) 3 (.int .i64 N))).trans (put_grown _ (w.heap.size + 1 + 1) 4 (.int .i64 s.rv))).trans (put_grown _ (w.heap.size + 1 + 1) 5 (.int .i64 s.sch))).trans (put_grown _ (w.heap.size + 1 + 1) 6 (.slice xD s.draws cD))
    have hSX2 := hSXh.out.keep hG hbn (fun y e => by cases e; left; omega)
    have hB2 := hbh.out.grown hG hbn (fun y e => by cases e; omega)
    exact bodyPost_ret (res_scene rfl rfl hP) rfl ⟨⟨_, _, _, _, _, ⟨s.reqs, s.cars.set cN ⟨x.fleet, x.own⟩, s.lots, N, s.rv, s.sch, s.draws⟩, rfl, hSX2.at_ hB2.size, hfairh.out, (by first | omega | (simp; omega) | simp), (by first | omega | (simp; omega) | simp)⟩, hB2⟩
  by_cases hw1 : wh % 12 = 1
  · skip
    have x5 := hX.cell 5
    simp at x5
    have xf := hX.free 5
    go_upto_region 35 with fail
    clear x5 xf
    have hP := put_grown W6 (w.heap.size + 1) 5 (.int .i64 N)
    have hX2 := hX.put 5 (.int .i64 N)
    replace hT := hT.far (b := w.heap.size + 1) (by omega) 5 (.int .i64 N)
    replace hZ := hZ.far (b := w.heap.size + 1) (by omega) 5 (.int .i64 N)
    replace hR := hR.kept hP (rowNe hR (by omega))
    replace hL := hL.kept hP (rowNe hL (by omega))
    replace hl := hl.kept hP (rowNe hl (by omega))
    replace hF := hF.kept hP (rowNe hF (by omega))
    replace hO := hO.kept hP (rowNe hO (by omega))
    replace hb := hb.grown hP hbn (fun x e => by cases e; omega)
    replace hsz := Nat.le_trans hsz hP.size
    replace hbn := hb.size
    replace hX : At (W6.setCell ⟨w.heap.size + 1, 5, none⟩ (.int .i64 N)) (w.heap.size + 1) 33 #[.slice yR s.reqs.length dR, .slice (some ⟨gl, 0, none⟩) us.length dC, .slice yL s.lots.length dL, .int .i64 s.cm, .int .i64 s.rv, .int .i64 N, .slice xD s.draws cD] := by simpa using hX2
    clear hX2 hP
    obtain ⟨W7, hWn⟩ : ∃ X, W6.setCell ⟨w.heap.size + 1, 5, none⟩ (.int .i64 N) = X := ⟨_, rfl⟩
    rw [hWn] at hT hX hZ hb hbn hsz hR hL hl hF hO ⊢
    clear hWn
    have hSX := mkX (nd := s.draws) (s.cm) (s.rv) (N) hSh.out hb hu'.out hx'.out (reqs := s.reqs) (lots := s.lots) (fl := x.fleet) (own := x.own) hR hL hl hF hO hD
    have hfair := mkFair hdrh.out cN (reqs := s.reqs) (lots := s.lots) (fl := x.fleet) (own := x.own) (s.cm) (s.rv) (N) (s.draws) (by first | omega | (simp; omega) | simp) (by first | omega | (simp; omega) | simp) (by first | omega | (simp; omega) | simp) hown64 hlot64
    have p0 := hX.cell 0
    have p1 := hX.cell 1
    have p2 := hX.cell 2
    have p3 := hX.cell 3
    have p4 := hX.cell 4
    have p5 := hX.cell 5
    have p6 := hX.cell 6
    simp at p0 p1 p2 p3 p4 p5 p6
    have r0 := hZ.cell 0
    have r1 := hZ.cell 1
    have r2 := hZ.cell 2
    have r3 := hZ.cell 3
    have r4 := hZ.cell 4
    have r5 := hZ.cell 5
    have r6 := hZ.cell 6
    simp at r0 r1 r2 r3 r4 r5 r6
    have rf := hZ.free
    have hSXh := Lib.hid hSX
    have hfairh := Lib.hid hfair
    have hZh := Lib.hid hZ
    have hbh := Lib.hid hb
    clear hSX hfair hZ hb hX hT hR hL hl hF hO
    go_wp2_with fail
    have hP := (((((((hZh.out.put 0 (.slice yR s.reqs.length dR)).put 1 (.slice (some ⟨gl, 0, none⟩) us.length dC)).put 2 (.slice yL s.lots.length dL)).put 3 (.int .i64 s.cm)).put 4 (.int .i64 s.rv)).put 5 (.int .i64 N)).put 6 (.slice xD s.draws cD))
    simp at hP
    have hG : W7.grownBy _ (some (w.heap.size + 1 + 1)) := ((((((put_grown _ (w.heap.size + 1 + 1) 0 (.slice yR s.reqs.length dR)).trans (put_grown _ (w.heap.size + 1 + 1) 1 (.slice (some ⟨gl, 0, none⟩) us.length dC))).trans (put_grown _ (w.heap.size + 1 + 1) 2 (.slice yL s.lots.length dL))).trans (put_grown _ (w.heap.size + 1 + 1) 3 (.int .i64 s.cm))).trans (put_grown _ (w.heap.size + 1 + 1) 4 (.int .i64 s.rv))).trans (put_grown _ (w.heap.size + 1 + 1) 5 (.int .i64 N))).trans (put_grown _ (w.heap.size + 1 + 1) 6 (.slice xD s.draws cD))
    have hSX2 := hSXh.out.keep hG hbn (fun y e => by cases e; left; omega)
    have hB2 := hbh.out.grown hG hbn (fun y e => by cases e; omega)
    exact bodyPost_ret (res_scene rfl rfl hP) rfl ⟨⟨_, _, _, _, _, ⟨s.reqs, s.cars.set cN ⟨x.fleet, x.own⟩, s.lots, s.cm, s.rv, N, s.draws⟩, rfl, hSX2.at_ hB2.size, hfairh.out, (by first | omega | (simp; omega) | simp), (by first | omega | (simp; omega) | simp)⟩, hB2⟩
  by_cases hw9 : wh % 12 = 9
  · skip
    have x4 := hX.cell 4
    simp at x4
    have xf := hX.free 4
    go_upto_region 35 with fail
    clear x4 xf
    have hP := put_grown W6 (w.heap.size + 1) 4 (.int .i64 N)
    have hX2 := hX.put 4 (.int .i64 N)
    replace hT := hT.far (b := w.heap.size + 1) (by omega) 4 (.int .i64 N)
    replace hZ := hZ.far (b := w.heap.size + 1) (by omega) 4 (.int .i64 N)
    replace hR := hR.kept hP (rowNe hR (by omega))
    replace hL := hL.kept hP (rowNe hL (by omega))
    replace hl := hl.kept hP (rowNe hl (by omega))
    replace hF := hF.kept hP (rowNe hF (by omega))
    replace hO := hO.kept hP (rowNe hO (by omega))
    replace hb := hb.grown hP hbn (fun x e => by cases e; omega)
    replace hsz := Nat.le_trans hsz hP.size
    replace hbn := hb.size
    replace hX : At (W6.setCell ⟨w.heap.size + 1, 4, none⟩ (.int .i64 N)) (w.heap.size + 1) 33 #[.slice yR s.reqs.length dR, .slice (some ⟨gl, 0, none⟩) us.length dC, .slice yL s.lots.length dL, .int .i64 s.cm, .int .i64 N, .int .i64 s.sch, .slice xD s.draws cD] := by simpa using hX2
    clear hX2 hP
    obtain ⟨W7, hWn⟩ : ∃ X, W6.setCell ⟨w.heap.size + 1, 4, none⟩ (.int .i64 N) = X := ⟨_, rfl⟩
    rw [hWn] at hT hX hZ hb hbn hsz hR hL hl hF hO ⊢
    clear hWn
    have hSX := mkX (nd := s.draws) (s.cm) (N) (s.sch) hSh.out hb hu'.out hx'.out (reqs := s.reqs) (lots := s.lots) (fl := x.fleet) (own := x.own) hR hL hl hF hO hD
    have hfair := mkFair hdrh.out cN (reqs := s.reqs) (lots := s.lots) (fl := x.fleet) (own := x.own) (s.cm) (N) (s.sch) (s.draws) (by first | omega | (simp; omega) | simp) (by first | omega | (simp; omega) | simp) (by first | omega | (simp; omega) | simp) hown64 hlot64
    have p0 := hX.cell 0
    have p1 := hX.cell 1
    have p2 := hX.cell 2
    have p3 := hX.cell 3
    have p4 := hX.cell 4
    have p5 := hX.cell 5
    have p6 := hX.cell 6
    simp at p0 p1 p2 p3 p4 p5 p6
    have r0 := hZ.cell 0
    have r1 := hZ.cell 1
    have r2 := hZ.cell 2
    have r3 := hZ.cell 3
    have r4 := hZ.cell 4
    have r5 := hZ.cell 5
    have r6 := hZ.cell 6
    simp at r0 r1 r2 r3 r4 r5 r6
    have rf := hZ.free
    have hSXh := Lib.hid hSX
    have hfairh := Lib.hid hfair
    have hZh := Lib.hid hZ
    have hbh := Lib.hid hb
    clear hSX hfair hZ hb hX hT hR hL hl hF hO
    go_wp2_with fail
    have hP := (((((((hZh.out.put 0 (.slice yR s.reqs.length dR)).put 1 (.slice (some ⟨gl, 0, none⟩) us.length dC)).put 2 (.slice yL s.lots.length dL)).put 3 (.int .i64 s.cm)).put 4 (.int .i64 N)).put 5 (.int .i64 s.sch)).put 6 (.slice xD s.draws cD))
    simp at hP
    have hG : W7.grownBy _ (some (w.heap.size + 1 + 1)) := ((((((put_grown _ (w.heap.size + 1 + 1) 0 (.slice yR s.reqs.length dR)).trans (put_grown _ (w.heap.size + 1 + 1) 1 (.slice (some ⟨gl, 0, none⟩) us.length dC))).trans (put_grown _ (w.heap.size + 1 + 1) 2 (.slice yL s.lots.length dL))).trans (put_grown _ (w.heap.size + 1 + 1) 3 (.int .i64 s.cm))).trans (put_grown _ (w.heap.size + 1 + 1) 4 (.int .i64 N))).trans (put_grown _ (w.heap.size + 1 + 1) 5 (.int .i64 s.sch))).trans (put_grown _ (w.heap.size + 1 + 1) 6 (.slice xD s.draws cD))
    have hSX2 := hSXh.out.keep hG hbn (fun y e => by cases e; left; omega)
    have hB2 := hbh.out.grown hG hbn (fun y e => by cases e; omega)
    exact bodyPost_ret (res_scene rfl rfl hP) rfl ⟨⟨_, _, _, _, _, ⟨s.reqs, s.cars.set cN ⟨x.fleet, x.own⟩, s.lots, s.cm, N, s.sch, s.draws⟩, rfl, hSX2.at_ hB2.size, hfairh.out, (by first | omega | (simp; omega) | simp), (by first | omega | (simp; omega) | simp)⟩, hB2⟩
  by_cases hw5 : wh % 12 = 5
  · skip
    have x1 := hl.cellAt (cN * 2 + 1) (by omega)
    rw [show cN * 2 + 1 = 2 * cN + 1 by omega, (flatC_get hu3h.out).2, show 2 * cN + 1 = cN * 2 + 1 by omega] at x1
    have xf := hl.frozenAt (cN * 2 + 1)
    go_upto_region 35 with fail
    clear x1 xf
    have hP := put_grown W6 gl (cN * 2 + 1) (.slice none 0 0)
    replace hT := hT.far (b := gl) (by omega) (cN * 2 + 1) (.slice none 0 0)
    replace hX := hX.far (b := gl) (by omega) (cN * 2 + 1) (.slice none 0 0)
    replace hZ := hZ.far (b := gl) (by omega) (cN * 2 + 1) (.slice none 0 0)
    replace hR := hR.kept hP (rowApart hR hl (by decide))
    replace hL := hL.kept hP (rowApart hL hl (by decide))
    replace hF := hF.kept hP (rowApart hF hl (by decide))
    replace hO := hO.kept hP (rowApart hO hl (by decide))
    replace hl := (hl.stored (cN * 2 + 1) (.slice none 0 0)).1
    rw [show cN * 2 + 1 = 2 * cN + 1 by omega, flatC_set (.slice none 0 0) hu3h.out, List.set_set, show 2 * cN + 1 = cN * 2 + 1 by omega] at hl
    replace hb := hb.grown hP hbn (fun x e => by cases e; omega)
    replace hsz := Nat.le_trans hsz hP.size
    replace hbn := hb.size
    clear hP
    obtain ⟨W7, hWn⟩ : ∃ X, W6.setCell ⟨gl, cN * 2 + 1, none⟩ (.slice none 0 0) = X := ⟨_, rfl⟩
    rw [hWn] at hT hX hZ hb hbn hsz hR hL hl hF hO ⊢
    clear hWn
    have hO := World.ownsRow_nil W7 (w.heap.size + 3) 3 1
    replace hl : W7.ownsRow (w.heap.size + 3) 53 2 (.slice (some ⟨gl, 0, none⟩) us.length dC) us.length (flatC (us.set cN (.slice yF x.fleet.length dF, .slice none 0 0))) := hl
    have hSX := mkX (nd := s.draws) (s.cm) (s.rv) (s.sch) hSh.out hb hu'.out hx'.out (reqs := s.reqs) (lots := s.lots) (fl := x.fleet) (own := []) hR hL hl hF hO hD
    have hfair := mkFair hdrh.out cN (reqs := s.reqs) (lots := s.lots) (fl := x.fleet) (own := []) (s.cm) (s.rv) (s.sch) (s.draws) (by first | omega | (simp; omega) | simp) (by first | omega | (simp; omega) | simp) (by first | omega | (simp; omega) | simp) (fun r hr => by cases hr) hlot64
    have p0 := hX.cell 0
    have p1 := hX.cell 1
    have p2 := hX.cell 2
    have p3 := hX.cell 3
    have p4 := hX.cell 4
    have p5 := hX.cell 5
    have p6 := hX.cell 6
    simp at p0 p1 p2 p3 p4 p5 p6
    have r0 := hZ.cell 0
    have r1 := hZ.cell 1
    have r2 := hZ.cell 2
    have r3 := hZ.cell 3
    have r4 := hZ.cell 4
    have r5 := hZ.cell 5
    have r6 := hZ.cell 6
    simp at r0 r1 r2 r3 r4 r5 r6
    have rf := hZ.free
    have hSXh := Lib.hid hSX
    have hfairh := Lib.hid hfair
    have hZh := Lib.hid hZ
    have hbh := Lib.hid hb
    clear hSX hfair hZ hb hX hT hR hL hl hF hO
    go_wp2_with fail
    have hP := (((((((hZh.out.put 0 (.slice yR s.reqs.length dR)).put 1 (.slice (some ⟨gl, 0, none⟩) us.length dC)).put 2 (.slice yL s.lots.length dL)).put 3 (.int .i64 s.cm)).put 4 (.int .i64 s.rv)).put 5 (.int .i64 s.sch)).put 6 (.slice xD s.draws cD))
    simp at hP
    have hG : W7.grownBy _ (some (w.heap.size + 1 + 1)) := ((((((put_grown _ (w.heap.size + 1 + 1) 0 (.slice yR s.reqs.length dR)).trans (put_grown _ (w.heap.size + 1 + 1) 1 (.slice (some ⟨gl, 0, none⟩) us.length dC))).trans (put_grown _ (w.heap.size + 1 + 1) 2 (.slice yL s.lots.length dL))).trans (put_grown _ (w.heap.size + 1 + 1) 3 (.int .i64 s.cm))).trans (put_grown _ (w.heap.size + 1 + 1) 4 (.int .i64 s.rv))).trans (put_grown _ (w.heap.size + 1 + 1) 5 (.int .i64 s.sch))).trans (put_grown _ (w.heap.size + 1 + 1) 6 (.slice xD s.draws cD))
    have hSX2 := hSXh.out.keep hG hbn (fun y e => by cases e; left; omega)
    have hB2 := hbh.out.grown hG hbn (fun y e => by cases e; omega)
    exact bodyPost_ret (res_scene rfl rfl hP) rfl ⟨⟨_, _, _, _, _, ⟨s.reqs, s.cars.set cN ⟨x.fleet, []⟩, s.lots, s.cm, s.rv, s.sch, s.draws⟩, rfl, hSX2.at_ hB2.size, hfairh.out, (by first | omega | (simp; omega) | simp), (by first | omega | (simp; omega) | simp)⟩, hB2⟩
  by_cases hw8 : wh % 12 = 8
  · skip
    have x1 := hl.cellAt (cN * 2) (by omega)
    rw [show cN * 2 = 2 * cN by omega, (flatC_get hu3h.out).1, show 2 * cN = cN * 2 by omega] at x1
    have xf := hl.frozenAt (cN * 2)
    go_upto_region 35 with fail
    clear x1 xf
    have hP := put_grown W6 gl (cN * 2) (.slice none 0 0)
    replace hT := hT.far (b := gl) (by omega) (cN * 2) (.slice none 0 0)
    replace hX := hX.far (b := gl) (by omega) (cN * 2) (.slice none 0 0)
    replace hZ := hZ.far (b := gl) (by omega) (cN * 2) (.slice none 0 0)
    replace hR := hR.kept hP (rowApart hR hl (by decide))
    replace hL := hL.kept hP (rowApart hL hl (by decide))
    replace hF := hF.kept hP (rowApart hF hl (by decide))
    replace hO := hO.kept hP (rowApart hO hl (by decide))
    replace hl := (hl.stored (cN * 2) (.slice none 0 0)).1
    rw [flatC_set0 (.slice none 0 0) hu3h.out, List.set_set] at hl
    replace hb := hb.grown hP hbn (fun x e => by cases e; omega)
    replace hsz := Nat.le_trans hsz hP.size
    replace hbn := hb.size
    clear hP
    obtain ⟨W7, hWn⟩ : ∃ X, W6.setCell ⟨gl, cN * 2, none⟩ (.slice none 0 0) = X := ⟨_, rfl⟩
    rw [hWn] at hT hX hZ hb hbn hsz hR hL hl hF hO ⊢
    clear hWn
    have hF := World.ownsRow_nil W7 (w.heap.size + 3) 57 5
    replace hl : W7.ownsRow (w.heap.size + 3) 53 2 (.slice (some ⟨gl, 0, none⟩) us.length dC) us.length (flatC (us.set cN (.slice none 0 0, .slice yO x.own.length dO))) := hl
    have hSX := mkX (nd := s.draws) (s.cm) (s.rv) (s.sch) hSh.out hb hu'.out hx'.out (reqs := s.reqs) (lots := s.lots) (fl := []) (own := x.own) hR hL hl hF hO hD
    have hfair := mkFair hdrh.out cN (reqs := s.reqs) (lots := s.lots) (fl := []) (own := x.own) (s.cm) (s.rv) (s.sch) (s.draws) (by first | omega | (simp; omega) | simp) (by first | omega | (simp; omega) | simp) (by first | omega | (simp; omega) | simp) hown64 hlot64
    have p0 := hX.cell 0
    have p1 := hX.cell 1
    have p2 := hX.cell 2
    have p3 := hX.cell 3
    have p4 := hX.cell 4
    have p5 := hX.cell 5
    have p6 := hX.cell 6
    simp at p0 p1 p2 p3 p4 p5 p6
    have r0 := hZ.cell 0
    have r1 := hZ.cell 1
    have r2 := hZ.cell 2
    have r3 := hZ.cell 3
    have r4 := hZ.cell 4
    have r5 := hZ.cell 5
    have r6 := hZ.cell 6
    simp at r0 r1 r2 r3 r4 r5 r6
    have rf := hZ.free
    have hSXh := Lib.hid hSX
    have hfairh := Lib.hid hfair
    have hZh := Lib.hid hZ
    have hbh := Lib.hid hb
    clear hSX hfair hZ hb hX hT hR hL hl hF hO
    go_wp2_with fail
    have hP := (((((((hZh.out.put 0 (.slice yR s.reqs.length dR)).put 1 (.slice (some ⟨gl, 0, none⟩) us.length dC)).put 2 (.slice yL s.lots.length dL)).put 3 (.int .i64 s.cm)).put 4 (.int .i64 s.rv)).put 5 (.int .i64 s.sch)).put 6 (.slice xD s.draws cD))
    simp at hP
    have hG : W7.grownBy _ (some (w.heap.size + 1 + 1)) := ((((((put_grown _ (w.heap.size + 1 + 1) 0 (.slice yR s.reqs.length dR)).trans (put_grown _ (w.heap.size + 1 + 1) 1 (.slice (some ⟨gl, 0, none⟩) us.length dC))).trans (put_grown _ (w.heap.size + 1 + 1) 2 (.slice yL s.lots.length dL))).trans (put_grown _ (w.heap.size + 1 + 1) 3 (.int .i64 s.cm))).trans (put_grown _ (w.heap.size + 1 + 1) 4 (.int .i64 s.rv))).trans (put_grown _ (w.heap.size + 1 + 1) 5 (.int .i64 s.sch))).trans (put_grown _ (w.heap.size + 1 + 1) 6 (.slice xD s.draws cD))
    have hSX2 := hSXh.out.keep hG hbn (fun y e => by cases e; left; omega)
    have hB2 := hbh.out.grown hG hbn (fun y e => by cases e; omega)
    exact bodyPost_ret (res_scene rfl rfl hP) rfl ⟨⟨_, _, _, _, _, ⟨s.reqs, s.cars.set cN ⟨[], x.own⟩, s.lots, s.cm, s.rv, s.sch, s.draws⟩, rfl, hSX2.at_ hB2.size, hfairh.out, (by first | omega | (simp; omega) | simp), (by first | omega | (simp; omega) | simp)⟩, hB2⟩
  by_cases hw6 : wh % 12 = 6
  · skip
    obtain ⟨ds, hds1, hds2, hds3⟩ := hdsh.out
    have hdl : ds.length ≤ s.draws ∧ s.draws ≤ ds.length := by omega
    have p := (hX.alloc (.cells #[.slice none 0 0] 73)).cell 6
    simp at p
    have ho := World.ownsRow_lit (base := w.heap.size + 3) (e := 73) (size := 1) W6 #[.slice none 0 0] 1 hsz (by decide) rfl
    have hplD : Plain (.slice xD s.draws cD) := by
      obtain ⟨d0, hd0⟩ : ∃ d0, ds[0]? = some d0 := ⟨_, List.getElem?_eq_getElem (by omega)⟩
      obtain ⟨g0, o0, h0, _⟩ := RowB.row hds2 (j := 0) (r := [d0]) (by rw [List.getElem?_map, hd0]; rfl)
      rw [h0]
      exact Or.inr ⟨_, _, _, rfl⟩
    have hnews := newsT (len := s.draws) hds2 (hb.trans ((belowAT W6 (.cells #[.slice none 0 0] 73)).mono hbn)) (rowsLen (f := fun d => [d]) (m := 1) (fun _ => rfl) _) (by decide)
    have hlen : ((ds.map fun d => [d]).flatten).length = s.draws * 1 := by rw [flat_one]; omega
    have hone : ∀ y ∈ (ds.map fun d => [d]).flatten, y.oneCell' = true := by rw [flat_one]; exact hds3
    clear hds1 hds2 hds3
    go_upto_region 35 with (at_builtin; refine wpList_append_plain rfl _ _ 31 rfl (w.heap.size + 3) 73 iD (.slice none 0 0) 1 24 (by kernel_rfl) hiD hD0 hDs hDb rfl (by decide) _ _ _ rfl ho (.slice xD s.draws cD) s.draws ⟨_, _, rfl⟩ hplD ((ds.map fun d => [d]).flatten) rfl hlen hnews hone (by unfold maxLen; omega) (by omega) (by simp; omega) ?_; intro v7 w7 hown7 hgrow7; obtain ⟨y7, c7, h7, hs7, hs8⟩ := rowSlice hown7; subst h7; have hbx7 := gAt (hX.alloc (.cells #[.slice none 0 0] 73)) hgrow7 (fun e => by have := (ho.lt _ e.symm).1; omega); have q7 := hbx7.cell 6; simp at q7; have qf7 := hbx7.free 6)
    clear p hnews hbx7 q7 qf7 hlen hone hplD
    replace hT := hT.alloc (.cells #[.slice none 0 0] 73)
    replace hX := hX.alloc (.cells #[.slice none 0 0] 73)
    replace hZ := hZ.alloc (.cells #[.slice none 0 0] 73)
    replace hR := hR.alloc (.cells #[.slice none 0 0] 73)
    replace hL := hL.alloc (.cells #[.slice none 0 0] 73)
    replace hl := hl.alloc (.cells #[.slice none 0 0] 73)
    replace hF := hF.alloc (.cells #[.slice none 0 0] 73)
    replace hO := hO.alloc (.cells #[.slice none 0 0] 73)
    replace hb := hb.trans ((belowAT W6 (.cells #[.slice none 0 0] 73)).mono hbn)
    replace hbn : w.heap.size ≤ (W6.alloc (.cells #[.slice none 0 0] 73)).heap.size := hb.size
    replace hsz : w.heap.size + 3 ≤ (W6.alloc (.cells #[.slice none 0 0] 73)).heap.size := by simp; omega
    replace hT := gAt hT hgrow7 (fun e => by have := (ho.lt _ e.symm).1; omega)
    replace hX := gAt hX hgrow7 (fun e => by have := (ho.lt _ e.symm).1; omega)
    replace hZ := gAt hZ hgrow7 (fun e => by have := (ho.lt _ e.symm).1; omega)
    replace hR := hR.kept hgrow7 (rowApart hR ho (by decide))
    replace hL := hL.kept hgrow7 (rowApart hL ho (by decide))
    replace hl := hl.kept hgrow7 (rowApart hl ho (by decide))
    replace hF := hF.kept hgrow7 (rowApart hF ho (by decide))
    replace hO := hO.kept hgrow7 (rowApart hO ho (by decide))
    replace hb := hb.grown hgrow7 hbn (fun x e => by have := (ho.lt _ e).1; omega)
    replace hsz := Nat.le_trans hsz hgrow7.size
    replace hbn := hb.size
    have hP := put_grown w7 (w.heap.size + 1) 6 (.slice y7 (1 + s.draws) c7)
    have hX2 := hX.put 6 (.slice y7 (1 + s.draws) c7)
    replace hT := hT.far (b := w.heap.size + 1) (by omega) 6 (.slice y7 (1 + s.draws) c7)
    replace hZ := hZ.far (b := w.heap.size + 1) (by omega) 6 (.slice y7 (1 + s.draws) c7)
    replace hR := hR.kept hP (rowNe hR (by omega))
    replace hL := hL.kept hP (rowNe hL (by omega))
    replace hl := hl.kept hP (rowNe hl (by omega))
    replace hF := hF.kept hP (rowNe hF (by omega))
    replace hO := hO.kept hP (rowNe hO (by omega))
    replace hb := hb.grown hP hbn (fun x e => by cases e; omega)
    replace hsz := Nat.le_trans hsz hP.size
    replace hbn := hb.size
    replace hX : At (w7.setCell ⟨w.heap.size + 1, 6, none⟩ (.slice y7 (1 + s.draws) c7)) (w.heap.size + 1) 33 #[.slice yR s.reqs.length dR, .slice (some ⟨gl, 0, none⟩) us.length dC, .slice yL s.lots.length dL, .int .i64 s.cm, .int .i64 s.rv, .int .i64 s.sch, .slice y7 (1 + s.draws) c7] := by simpa using hX2
    clear hX2 hP
    obtain ⟨W7, hWn⟩ : ∃ X, w7.setCell ⟨w.heap.size + 1, 6, none⟩ (.slice y7 (1 + s.draws) c7) = X := ⟨_, rfl⟩
    rw [hWn] at hT hX hZ hb hbn hsz hR hL hl hF hO ⊢
    clear hWn
    have hD7 : ∃ y cap, Value.slice y7 (1 + s.draws) c7 = .slice y (1 + s.draws) cap ∧ 1 + s.draws ≤ cap ∧ cap ≤ maxLen := ⟨_, _, rfl, hs7, hs8⟩
    clear hgrow7 ho hown7
    have hSX := mkX (nd := 1 + s.draws) (s.cm) (s.rv) (s.sch) hSh.out hb hu'.out hx'.out (reqs := s.reqs) (lots := s.lots) (fl := x.fleet) (own := x.own) hR hL hl hF hO hD7
    have hfair := mkFair hdrh.out cN (reqs := s.reqs) (lots := s.lots) (fl := x.fleet) (own := x.own) (s.cm) (s.rv) (s.sch) (1 + s.draws) (by first | omega | (simp; omega) | simp) (by first | omega | (simp; omega) | simp) (by first | omega | (simp; omega) | simp) hown64 hlot64
    have p0 := hX.cell 0
    have p1 := hX.cell 1
    have p2 := hX.cell 2
    have p3 := hX.cell 3
    have p4 := hX.cell 4
    have p5 := hX.cell 5
    have p6 := hX.cell 6
    simp at p0 p1 p2 p3 p4 p5 p6
    have r0 := hZ.cell 0
    have r1 := hZ.cell 1
    have r2 := hZ.cell 2
    have r3 := hZ.cell 3
    have r4 := hZ.cell 4
    have r5 := hZ.cell 5
    have r6 := hZ.cell 6
    simp at r0 r1 r2 r3 r4 r5 r6
    have rf := hZ.free
    have hSXh := Lib.hid hSX
    have hfairh := Lib.hid hfair
    have hZh := Lib.hid hZ
    have hbh := Lib.hid hb
    clear hSX hfair hZ hb hX hT hR hL hl hF hO
    go_wp2_with fail
    have hP := (((((((hZh.out.put 0 (.slice yR s.reqs.length dR)).put 1 (.slice (some ⟨gl, 0, none⟩) us.length dC)).put 2 (.slice yL s.lots.length dL)).put 3 (.int .i64 s.cm)).put 4 (.int .i64 s.rv)).put 5 (.int .i64 s.sch)).put 6 (.slice y7 (1 + s.draws) c7))
    simp at hP
    have hG : W7.grownBy _ (some (w.heap.size + 1 + 1)) := ((((((put_grown _ (w.heap.size + 1 + 1) 0 (.slice yR s.reqs.length dR)).trans (put_grown _ (w.heap.size + 1 + 1) 1 (.slice (some ⟨gl, 0, none⟩) us.length dC))).trans (put_grown _ (w.heap.size + 1 + 1) 2 (.slice yL s.lots.length dL))).trans (put_grown _ (w.heap.size + 1 + 1) 3 (.int .i64 s.cm))).trans (put_grown _ (w.heap.size + 1 + 1) 4 (.int .i64 s.rv))).trans (put_grown _ (w.heap.size + 1 + 1) 5 (.int .i64 s.sch))).trans (put_grown _ (w.heap.size + 1 + 1) 6 (.slice y7 (1 + s.draws) c7))
    have hSX2 := hSXh.out.keep hG hbn (fun y e => by cases e; left; omega)
    have hB2 := hbh.out.grown hG hbn (fun y e => by cases e; omega)
    exact bodyPost_ret (res_scene rfl rfl hP) rfl ⟨⟨_, _, _, _, _, ⟨s.reqs, s.cars.set cN ⟨x.fleet, x.own⟩, s.lots, s.cm, s.rv, s.sch, 1 + s.draws⟩, rfl, hSX2.at_ hB2.size, hfairh.out, (by first | omega | (simp; omega) | simp), (by first | omega | (simp; omega) | simp)⟩, hB2⟩
  by_cases hw7 : wh % 12 = 7
  · skip
    have p := hX.cell 2
    simp at p
    have hA1 := At.new W6 59 #[.int .i64 N, .int .i64 0]
    go_upto_region 35 with (at_builtin; refine wpList_append_own _ rfl _ _ 30 rfl (w.heap.size + 3) 59 iL (.agg #[.int .i64 0, .int .i64 0]) 2 16 (by kernel_rfl) hiL hL0 hLs hLb rfl (by decide) _ _ _ rfl (hL.alloc _) ⟨W6.heap.size, 0, none⟩ 1 1 [.int .i64 N, .int .i64 0] rfl rfl (World.news_of_block (cs := #[.int .i64 N, .int .i64 0]) (t := 59) (fr := (0, 0)) hA1) (by simp [Value.oneCell']) (by unfold maxLen; omega) (by omega) (by simp; omega) ?_; intro v7 w7 hown7 hgrow7 hnil7; have hbx7 := gAt (hX.alloc (.cells #[.int .i64 N, .int .i64 0] 59)) hgrow7 (fun e => by have := (hL.lt _ e.symm).1; omega); have q7 := hbx7.cell 2; simp at q7; have qf7 := hbx7.free 2; obtain ⟨y7, c7, h7, _, _⟩ := rowSlice hown7; subst h7)
    clear p hbx7 q7 qf7 hA1 hnil7
    replace hT := hT.alloc (.cells #[.int .i64 N, .int .i64 0] 59)
    replace hX := hX.alloc (.cells #[.int .i64 N, .int .i64 0] 59)
    replace hZ := hZ.alloc (.cells #[.int .i64 N, .int .i64 0] 59)
    replace hR := hR.alloc (.cells #[.int .i64 N, .int .i64 0] 59)
    replace hL := hL.alloc (.cells #[.int .i64 N, .int .i64 0] 59)
    replace hl := hl.alloc (.cells #[.int .i64 N, .int .i64 0] 59)
    replace hF := hF.alloc (.cells #[.int .i64 N, .int .i64 0] 59)
    replace hO := hO.alloc (.cells #[.int .i64 N, .int .i64 0] 59)
    replace hb := hb.trans ((belowAT W6 (.cells #[.int .i64 N, .int .i64 0] 59)).mono hbn)
    replace hbn : w.heap.size ≤ (W6.alloc (.cells #[.int .i64 N, .int .i64 0] 59)).heap.size := hb.size
    replace hsz : w.heap.size + 3 ≤ (W6.alloc (.cells #[.int .i64 N, .int .i64 0] 59)).heap.size := by simp; omega
    have hLo := hL
    replace hT := gAt hT hgrow7 (fun e => by have := (hLo.lt _ e.symm).1; omega)
    replace hX := gAt hX hgrow7 (fun e => by have := (hLo.lt _ e.symm).1; omega)
    replace hZ := gAt hZ hgrow7 (fun e => by have := (hLo.lt _ e.symm).1; omega)
    replace hR := hR.kept hgrow7 (rowApart hR hLo (by decide))
    replace hl := hl.kept hgrow7 (rowApart hl hLo (by decide))
    replace hF := hF.kept hgrow7 (rowApart hF hLo (by decide))
    replace hO := hO.kept hgrow7 (rowApart hO hLo (by decide))
    replace hb := hb.grown hgrow7 hbn (fun x e => by have := (hLo.lt _ e).1; omega)
    replace hsz := Nat.le_trans hsz hgrow7.size
    replace hbn := hb.size
    replace hL : w7.ownsRow (w.heap.size + 3) 59 2 (.slice y7 (s.lots.length + 1) c7) (s.lots ++ [(⟨N, 0⟩ : Lt)]).length (flatL (s.lots ++ [(⟨N, 0⟩ : Lt)])) := by rw [flatL_snoc, List.length_append]; exact hown7
    clear hown7 hgrow7 hLo
    have hP := put_grown w7 (w.heap.size + 1) 2 (.slice y7 (s.lots.length + 1) c7)
    have hX2 := hX.put 2 (.slice y7 (s.lots.length + 1) c7)
    replace hT := hT.far (b := w.heap.size + 1) (by omega) 2 (.slice y7 (s.lots.length + 1) c7)
    replace hZ := hZ.far (b := w.heap.size + 1) (by omega) 2 (.slice y7 (s.lots.length + 1) c7)
    replace hR := hR.kept hP (rowNe hR (by omega))
    replace hl := hl.kept hP (rowNe hl (by omega))
    replace hF := hF.kept hP (rowNe hF (by omega))
    replace hO := hO.kept hP (rowNe hO (by omega))
    replace hL := hL.kept hP (rowNe hL (by omega))
    replace hb := hb.grown hP hbn (fun x e => by cases e; omega)
    replace hsz := Nat.le_trans hsz hP.size
    replace hbn := hb.size
    replace hX : At (w7.setCell ⟨w.heap.size + 1, 2, none⟩ (.slice y7 (s.lots.length + 1) c7)) (w.heap.size + 1) 33 #[.slice yR s.reqs.length dR, .slice (some ⟨gl, 0, none⟩) us.length dC, .slice y7 (s.lots.length + 1) c7, .int .i64 s.cm, .int .i64 s.rv, .int .i64 s.sch, .slice xD s.draws cD] := by simpa using hX2
    clear hX2 hP
    obtain ⟨W7, hWn⟩ : ∃ X, w7.setCell ⟨w.heap.size + 1, 2, none⟩ (.slice y7 (s.lots.length + 1) c7) = X := ⟨_, rfl⟩
    rw [hWn] at hT hX hZ hb hbn hsz hR hl hF hO hL ⊢
    clear hWn
    have hlot7 : ∀ l ∈ s.lots ++ [(⟨N, 0⟩ : Lt)], I64 l.req := fun l hl => by
      rcases List.mem_append.1 hl with hl | hl
      · exact hlot64 l hl
      · simp at hl; subst hl; exact hNI
    have hSX := mkX (nd := s.draws) (s.cm) (s.rv) (s.sch) hSh.out hb hu'.out hx'.out (reqs := s.reqs) (lots := s.lots ++ [(⟨N, 0⟩ : Lt)]) (fl := x.fleet) (own := x.own) hR hL hl hF hO hD
    have hfair := mkFair hdrh.out cN (reqs := s.reqs) (lots := s.lots ++ [(⟨N, 0⟩ : Lt)]) (fl := x.fleet) (own := x.own) (s.cm) (s.rv) (s.sch) (s.draws) (by first | omega | (simp; omega) | simp) (by first | omega | (simp; omega) | simp) (by first | omega | (simp; omega) | simp) hown64 hlot7
    have p0 := hX.cell 0
    have p1 := hX.cell 1
    have p2 := hX.cell 2
    have p3 := hX.cell 3
    have p4 := hX.cell 4
    have p5 := hX.cell 5
    have p6 := hX.cell 6
    simp at p0 p1 p2 p3 p4 p5 p6
    have r0 := hZ.cell 0
    have r1 := hZ.cell 1
    have r2 := hZ.cell 2
    have r3 := hZ.cell 3
    have r4 := hZ.cell 4
    have r5 := hZ.cell 5
    have r6 := hZ.cell 6
    simp at r0 r1 r2 r3 r4 r5 r6
    have rf := hZ.free
    have hSXh := Lib.hid hSX
    have hfairh := Lib.hid hfair
    have hZh := Lib.hid hZ
    have hbh := Lib.hid hb
    clear hSX hfair hZ hb hX hT hR hL hl hF hO
    go_wp2_with fail
    have hP := (((((((hZh.out.put 0 (.slice yR s.reqs.length dR)).put 1 (.slice (some ⟨gl, 0, none⟩) us.length dC)).put 2 (.slice y7 (s.lots.length + 1) c7)).put 3 (.int .i64 s.cm)).put 4 (.int .i64 s.rv)).put 5 (.int .i64 s.sch)).put 6 (.slice xD s.draws cD))
    simp at hP
    have hG : W7.grownBy _ (some (w.heap.size + 1 + 1)) := ((((((put_grown _ (w.heap.size + 1 + 1) 0 (.slice yR s.reqs.length dR)).trans (put_grown _ (w.heap.size + 1 + 1) 1 (.slice (some ⟨gl, 0, none⟩) us.length dC))).trans (put_grown _ (w.heap.size + 1 + 1) 2 (.slice y7 (s.lots.length + 1) c7))).trans (put_grown _ (w.heap.size + 1 + 1) 3 (.int .i64 s.cm))).trans (put_grown _ (w.heap.size + 1 + 1) 4 (.int .i64 s.rv))).trans (put_grown _ (w.heap.size + 1 + 1) 5 (.int .i64 s.sch))).trans (put_grown _ (w.heap.size + 1 + 1) 6 (.slice xD s.draws cD))
    have hSX2 := hSXh.out.keep hG hbn (fun y e => by cases e; left; omega)
    have hB2 := hbh.out.grown hG hbn (fun y e => by cases e; omega)
    exact bodyPost_ret (res_scene rfl rfl hP) rfl ⟨⟨_, _, _, _, _, ⟨s.reqs, s.cars.set cN ⟨x.fleet, x.own⟩, s.lots ++ [(⟨N, 0⟩ : Lt)], s.cm, s.rv, s.sch, s.draws⟩, rfl, hSX2.at_ hB2.size, hfairh.out, (by first | omega | (simp; omega) | simp), (by first | omega | (simp; omega) | simp)⟩, hB2⟩
  by_cases hw3 : wh % 12 = 3
  · skip
    obtain ⟨gf, capf, hgf0, hgf, hgf2, _, _⟩ := rowSome hF (by omega)
    obtain ⟨hgf3, hgf4⟩ : yF = some ⟨gf, 0, none⟩ ∧ dF = capf := by simpa using hgf0
    subst hgf3 hgf4
    clear hgf0
    have hkl : 0 < x.fleet.length := by omega
    obtain ⟨vh, hjx⟩ : ∃ vh, x.fleet[0]? = some vh := ⟨_, List.getElem?_eq_getElem hkl⟩
    have q1 := hl.cellAt (cN * 2) (by omega)
    rw [show cN * 2 = 2 * cN by omega, (flatC_get hu3h.out).1, show 2 * cN = cN * 2 by omega] at q1
    have kq1 := cell_regrown q1
    have kt2 := cell_regrown tt2
    have hjxh := Lib.hid hjx
    clear hjx
    go_upto_region 22 with fail
    refine Tail.wp_region_below_tail 7 (by kernel_rfl) (by kernel_rfl) (by kernel_rfl) ?_
    simp only [List.take_succ_cons, List.take_zero, List.drop_succ_cons, List.drop_zero]
    repeat (go_big_quiet_step (fail))
    refine wpQuiet_nil ?_
    intro _ hw'
    obtain ⟨⟨dq, osq⟩, hw''⟩ := hw'
    subst hw''
    have hg8 := Below.grow (below_regrown W6 dq osq)
    replace hT := gAt hT hg8 (by simp)
    replace hX := gAt hX hg8 (by simp)
    replace hZ := gAt hZ hg8 (by simp)
    replace hR := hR.kept hg8 (rowFree hR (fun x e => by cases e))
    replace hL := hL.kept hg8 (rowFree hL (fun x e => by cases e))
    replace hl := hl.kept hg8 (rowFree hl (fun x e => by cases e))
    replace hF := hF.kept hg8 (rowFree hF (fun x e => by cases e))
    replace hO := hO.kept hg8 (rowFree hO (fun x e => by cases e))
    replace hb := hb.grown hg8 hbn (fun x e => by cases e)
    replace hsz := Nat.le_trans hsz hg8.size
    replace hbn := hb.size
    clear hg8
    obtain ⟨W7, hWn⟩ : ∃ X, grow (redrawn W6 dq) osq = X := ⟨_, rfl⟩
    rw [hWn] at hT hX hZ hb hbn hsz hR hL hl hF hO ⊢
    clear hWn
    have hjx := hjxh.out
    have e1 := hF.cellAt (0 * 5 + 2) (by omega)
    have e2 := flat_get (rowsLen (f := vhV) (m := 5) (fun _ => rfl) x.fleet) 0 (vhV vh) (by rw [List.getElem?_map, hjx]; rfl) 2 _ rfl
    unfold flatV at e1
    rw [e2] at e1
    have ef := hF.frozenAt (0 * 5 + 2)
    simp only [Nat.zero_mul, Nat.zero_add] at e1 ef
    clear e2 q1 kq1 kt2 hjx
    go_upto_region 35 with fail
    have hjx := hjxh.out
    have hP := put_grown W7 gf (2) (.int .i64 N)
    replace hT := hT.far (b := gf) (by omega) (2) (.int .i64 N)
    replace hX := hX.far (b := gf) (by omega) (2) (.int .i64 N)
    replace hZ := hZ.far (b := gf) (by omega) (2) (.int .i64 N)
    replace hR := hR.kept hP (rowApart hR hF (by decide))
    replace hL := hL.kept hP (rowApart hL hF (by decide))
    replace hl := hl.kept hP (rowApart hl hF (by decide))
    replace hO := hO.kept hP (rowApart hO hF (by decide))
    have hst := (hF.stored (0 * 5 + 2) (.int .i64 N)).1
    have hfs := flat_setT (f := vhV) (m := 5) (fun _ => rfl) (x := vh) (x' := (⟨vh.hx, vh.hy, N, vh.st, vh.en⟩ : Vh)) (i := 2) (v := .int .i64 N) (by decide) rfl (l := x.fleet) (j := 0) hjx
    unfold flatV at hst
    rw [hfs] at hst
    simp only [Nat.zero_mul, Nat.zero_add] at hst
    replace hF := hst
    replace hb := hb.grown hP hbn (fun x e => by cases e; omega)
    replace hsz := Nat.le_trans hsz hP.size
    replace hbn := hb.size
    clear hP hst hfs
    clear e1 ef hjx
    replace hF : (W7.setCell ⟨gf, 2, none⟩ (.int .i64 N)).ownsRow (w.heap.size + 3) 57 5 (.slice (some ⟨gf, 0, none⟩) x.fleet.length dF) (x.fleet.set 0 (⟨vh.hx, vh.hy, N, vh.st, vh.en⟩ : Vh)).length (flatV (x.fleet.set 0 (⟨vh.hx, vh.hy, N, vh.st, vh.en⟩ : Vh))) := by rw [List.length_set]; exact hF
    obtain ⟨W8, hWn⟩ : ∃ X, W7.setCell ⟨gf, 2, none⟩ (.int .i64 N) = X := ⟨_, rfl⟩
    rw [hWn] at hT hX hZ hb hbn hsz hR hL hl hF hO ⊢
    clear hWn
    have hSX := mkX (nd := s.draws) (s.cm) (s.rv) (s.sch) hSh.out hb hu'.out hx'.out (reqs := s.reqs) (lots := s.lots) (fl := x.fleet.set 0 (⟨vh.hx, vh.hy, N, vh.st, vh.en⟩ : Vh)) (own := x.own) hR hL hl hF hO hD
    have hfair := mkFair hdrh.out cN (reqs := s.reqs) (lots := s.lots) (fl := x.fleet.set 0 (⟨vh.hx, vh.hy, N, vh.st, vh.en⟩ : Vh)) (own := x.own) (s.cm) (s.rv) (s.sch) (s.draws) (by first | omega | (simp; omega) | simp) (by first | omega | (simp; omega) | simp) (by first | omega | (simp; omega) | simp) hown64 hlot64
    have p0 := hX.cell 0
    have p1 := hX.cell 1
    have p2 := hX.cell 2
    have p3 := hX.cell 3
    have p4 := hX.cell 4
    have p5 := hX.cell 5
    have p6 := hX.cell 6
    simp at p0 p1 p2 p3 p4 p5 p6
    have r0 := hZ.cell 0
    have r1 := hZ.cell 1
    have r2 := hZ.cell 2
    have r3 := hZ.cell 3
    have r4 := hZ.cell 4
    have r5 := hZ.cell 5
    have r6 := hZ.cell 6
    simp at r0 r1 r2 r3 r4 r5 r6
    have rf := hZ.free
    have hSXh := Lib.hid hSX
    have hfairh := Lib.hid hfair
    have hZh := Lib.hid hZ
    have hbh := Lib.hid hb
    clear hSX hfair hZ hb hX hT hR hL hl hF hO
    go_wp2_with fail
    have hP := (((((((hZh.out.put 0 (.slice yR s.reqs.length dR)).put 1 (.slice (some ⟨gl, 0, none⟩) us.length dC)).put 2 (.slice yL s.lots.length dL)).put 3 (.int .i64 s.cm)).put 4 (.int .i64 s.rv)).put 5 (.int .i64 s.sch)).put 6 (.slice xD s.draws cD))
    simp at hP
    have hG : W8.grownBy _ (some (w.heap.size + 1 + 1)) := ((((((put_grown _ (w.heap.size + 1 + 1) 0 (.slice yR s.reqs.length dR)).trans (put_grown _ (w.heap.size + 1 + 1) 1 (.slice (some ⟨gl, 0, none⟩) us.length dC))).trans (put_grown _ (w.heap.size + 1 + 1) 2 (.slice yL s.lots.length dL))).trans (put_grown _ (w.heap.size + 1 + 1) 3 (.int .i64 s.cm))).trans (put_grown _ (w.heap.size + 1 + 1) 4 (.int .i64 s.rv))).trans (put_grown _ (w.heap.size + 1 + 1) 5 (.int .i64 s.sch))).trans (put_grown _ (w.heap.size + 1 + 1) 6 (.slice xD s.draws cD))
    have hSX2 := hSXh.out.keep hG hbn (fun y e => by cases e; left; omega)
    have hB2 := hbh.out.grown hG hbn (fun y e => by cases e; omega)
    exact bodyPost_ret (res_scene rfl rfl hP) rfl ⟨⟨_, _, _, _, _, ⟨s.reqs, s.cars.set cN ⟨x.fleet.set 0 (⟨vh.hx, vh.hy, N, vh.st, vh.en⟩ : Vh), x.own⟩, s.lots, s.cm, s.rv, s.sch, s.draws⟩, rfl, hSX2.at_ hB2.size, hfairh.out, (by first | omega | (simp; omega) | simp), (by first | omega | (simp; omega) | simp)⟩, hB2⟩
  by_cases hw4 : wh % 12 = 4
  · skip
    obtain ⟨gf, capf, hgf0, hgf, hgf2, _, _⟩ := rowSome hF (by omega)
    obtain ⟨hgf3, hgf4⟩ : yF = some ⟨gf, 0, none⟩ ∧ dF = capf := by simpa using hgf0
    subst hgf3 hgf4
    clear hgf0
    obtain ⟨kk, hkk⟩ : ∃ kk : Nat, (x.fleet.length : Int) - 1 = kk := ⟨((x.fleet.length : Int) - 1).toNat, by omega⟩
    have hkl : kk < x.fleet.length := by omega
    obtain ⟨vh, hjx⟩ : ∃ vh, x.fleet[kk]? = some vh := ⟨_, List.getElem?_eq_getElem hkl⟩
    have q1 := hl.cellAt (cN * 2) (by omega)
    rw [show cN * 2 = 2 * cN by omega, (flatC_get hu3h.out).1, show 2 * cN = cN * 2 by omega] at q1
    have kq1 := cell_regrown q1
    have kt2 := cell_regrown tt2
    have hjxh := Lib.hid hjx
    clear hjx
    go_upto_region 24 with fail
    refine Tail.wp_region_below_tail 14 (by kernel_rfl) (by kernel_rfl) (by kernel_rfl) ?_
    simp only [List.take_succ_cons, List.take_zero, List.drop_succ_cons, List.drop_zero]
    repeat (go_big_quiet_step (fail))
    refine wpQuiet_nil ?_
    intro _ hw'
    obtain ⟨⟨dq, osq⟩, hw''⟩ := hw'
    subst hw''
    have hg8 := Below.grow (below_regrown W6 dq osq)
    replace hT := gAt hT hg8 (by simp)
    replace hX := gAt hX hg8 (by simp)
    replace hZ := gAt hZ hg8 (by simp)
    replace hR := hR.kept hg8 (rowFree hR (fun x e => by cases e))
    replace hL := hL.kept hg8 (rowFree hL (fun x e => by cases e))
    replace hl := hl.kept hg8 (rowFree hl (fun x e => by cases e))
    replace hF := hF.kept hg8 (rowFree hF (fun x e => by cases e))
    replace hO := hO.kept hg8 (rowFree hO (fun x e => by cases e))
    replace hb := hb.grown hg8 hbn (fun x e => by cases e)
    replace hsz := Nat.le_trans hsz hg8.size
    replace hbn := hb.size
    clear hg8
    obtain ⟨W7, hWn⟩ : ∃ X, grow (redrawn W6 dq) osq = X := ⟨_, rfl⟩
    rw [hWn] at hT hX hZ hb hbn hsz hR hL hl hF hO ⊢
    clear hWn
    have hjx := hjxh.out
    have e1 := hF.cellAt (kk * 5 + 4) (by omega)
    have e2 := flat_get (rowsLen (f := vhV) (m := 5) (fun _ => rfl) x.fleet) kk (vhV vh) (by rw [List.getElem?_map, hjx]; rfl) 4 _ rfl
    unfold flatV at e1
    rw [e2] at e1
    have ef := hF.frozenAt (kk * 5 + 4)
    clear e2 q1 kq1 kt2 hjx
    go_upto_region 35 with fail
    have hjx := hjxh.out
    have hP := put_grown W7 gf (kk * 5 + 4) (.int .i64 N)
    replace hT := hT.far (b := gf) (by omega) (kk * 5 + 4) (.int .i64 N)
    replace hX := hX.far (b := gf) (by omega) (kk * 5 + 4) (.int .i64 N)
    replace hZ := hZ.far (b := gf) (by omega) (kk * 5 + 4) (.int .i64 N)
    replace hR := hR.kept hP (rowApart hR hF (by decide))
    replace hL := hL.kept hP (rowApart hL hF (by decide))
    replace hl := hl.kept hP (rowApart hl hF (by decide))
    replace hO := hO.kept hP (rowApart hO hF (by decide))
    have hst := (hF.stored (kk * 5 + 4) (.int .i64 N)).1
    have hfs := flat_setT (f := vhV) (m := 5) (fun _ => rfl) (x := vh) (x' := (⟨vh.hx, vh.hy, vh.cp, vh.st, N⟩ : Vh)) (i := 4) (v := .int .i64 N) (by decide) rfl (l := x.fleet) (j := kk) hjx
    unfold flatV at hst
    rw [hfs] at hst
    replace hF := hst
    replace hb := hb.grown hP hbn (fun x e => by cases e; omega)
    replace hsz := Nat.le_trans hsz hP.size
    replace hbn := hb.size
    clear hP hst hfs
    clear e1 ef hjx
    replace hF : (W7.setCell ⟨gf, kk * 5 + 4, none⟩ (.int .i64 N)).ownsRow (w.heap.size + 3) 57 5 (.slice (some ⟨gf, 0, none⟩) x.fleet.length dF) (x.fleet.set kk (⟨vh.hx, vh.hy, vh.cp, vh.st, N⟩ : Vh)).length (flatV (x.fleet.set kk (⟨vh.hx, vh.hy, vh.cp, vh.st, N⟩ : Vh))) := by rw [List.length_set]; exact hF
    obtain ⟨W8, hWn⟩ : ∃ X, W7.setCell ⟨gf, kk * 5 + 4, none⟩ (.int .i64 N) = X := ⟨_, rfl⟩
    rw [hWn] at hT hX hZ hb hbn hsz hR hL hl hF hO ⊢
    clear hWn
    have hSX := mkX (nd := s.draws) (s.cm) (s.rv) (s.sch) hSh.out hb hu'.out hx'.out (reqs := s.reqs) (lots := s.lots) (fl := x.fleet.set kk (⟨vh.hx, vh.hy, vh.cp, vh.st, N⟩ : Vh)) (own := x.own) hR hL hl hF hO hD
    have hfair := mkFair hdrh.out cN (reqs := s.reqs) (lots := s.lots) (fl := x.fleet.set kk (⟨vh.hx, vh.hy, vh.cp, vh.st, N⟩ : Vh)) (own := x.own) (s.cm) (s.rv) (s.sch) (s.draws) (by first | omega | (simp; omega) | simp) (by first | omega | (simp; omega) | simp) (by first | omega | (simp; omega) | simp) hown64 hlot64
    have p0 := hX.cell 0
    have p1 := hX.cell 1
    have p2 := hX.cell 2
    have p3 := hX.cell 3
    have p4 := hX.cell 4
    have p5 := hX.cell 5
    have p6 := hX.cell 6
    simp at p0 p1 p2 p3 p4 p5 p6
    have r0 := hZ.cell 0
    have r1 := hZ.cell 1
    have r2 := hZ.cell 2
    have r3 := hZ.cell 3
    have r4 := hZ.cell 4
    have r5 := hZ.cell 5
    have r6 := hZ.cell 6
    simp at r0 r1 r2 r3 r4 r5 r6
    have rf := hZ.free
    have hSXh := Lib.hid hSX
    have hfairh := Lib.hid hfair
    have hZh := Lib.hid hZ
    have hbh := Lib.hid hb
    clear hSX hfair hZ hb hX hT hR hL hl hF hO
    go_wp2_with fail
    have hP := (((((((hZh.out.put 0 (.slice yR s.reqs.length dR)).put 1 (.slice (some ⟨gl, 0, none⟩) us.length dC)).put 2 (.slice yL s.lots.length dL)).put 3 (.int .i64 s.cm)).put 4 (.int .i64 s.rv)).put 5 (.int .i64 s.sch)).put 6 (.slice xD s.draws cD))
    simp at hP
    have hG : W8.grownBy _ (some (w.heap.size + 1 + 1)) := ((((((put_grown _ (w.heap.size + 1 + 1) 0 (.slice yR s.reqs.length dR)).trans (put_grown _ (w.heap.size + 1 + 1) 1 (.slice (some ⟨gl, 0, none⟩) us.length dC))).trans (put_grown _ (w.heap.size + 1 + 1) 2 (.slice yL s.lots.length dL))).trans (put_grown _ (w.heap.size + 1 + 1) 3 (.int .i64 s.cm))).trans (put_grown _ (w.heap.size + 1 + 1) 4 (.int .i64 s.rv))).trans (put_grown _ (w.heap.size + 1 + 1) 5 (.int .i64 s.sch))).trans (put_grown _ (w.heap.size + 1 + 1) 6 (.slice xD s.draws cD))
    have hSX2 := hSXh.out.keep hG hbn (fun y e => by cases e; left; omega)
    have hB2 := hbh.out.grown hG hbn (fun y e => by cases e; omega)
    exact bodyPost_ret (res_scene rfl rfl hP) rfl ⟨⟨_, _, _, _, _, ⟨s.reqs, s.cars.set cN ⟨x.fleet.set kk (⟨vh.hx, vh.hy, vh.cp, vh.st, N⟩ : Vh), x.own⟩, s.lots, s.cm, s.rv, s.sch, s.draws⟩, rfl, hSX2.at_ hB2.size, hfairh.out, (by first | omega | (simp; omega) | simp), (by first | omega | (simp; omega) | simp)⟩, hB2⟩
  by_cases hw2 : wh % 12 = 2
  · skip
    go_upto_region 20 with fail
    refine Sched.wp_region_sched 11 (fun W W' => W.grownBy W' (Value.slice yO x.own.length dO).ownBlock) (V20 w.heap.size gl us.length dC cN W6.heap.size (.slice yO x.own.length dO) N) (Z20 (w.heap.size + 3) (.slice yO x.own.length dO) x.own N) (by kernel_rfl) (by kernel_rfl) (by kernel_rfl) (fun h1 h2 => h1.trans h2) (fun h1 h2 => V20.keep (fun b e => (hO.lt b e).2) h1 h2) (gDrew _ _) (fun ys => ⟨fun _ => hO, fun h => by cases h⟩) (Sched.StepsA.steps (by kernel_rfl) ?hS2) ?hQ2
    case hS2 =>
     simp only [List.take_succ_cons, List.take_zero]
     refine ⟨?_, ?_, ?_, ?_, ?_, ?_, ?_, ?_, ?_, ?_, ?_, trivial⟩
     · intro ys done W aa hE hn hF2 hD2 hZ2 hG hO2
       replace hE : W6.grownBy W (Value.slice yO x.own.length dO).ownBlock := hE
       have o1 := hO2 5 (by kernel_rfl)
       replace o1 : aa.tmps[5]? = some (.slice (some ⟨gl, 0, none⟩) us.length dC) := o1
       go_wp2_with fail
       exact ⟨_, rfl, gRefl _ _, rfl, hZ2.light (by decide)⟩
     · intro ys done W aa hE hn hF2 hD2 hZ2 hG hO2
       replace hE : W6.grownBy W (Value.slice yO x.own.length dO).ownBlock := hE
       have o1 := hO2 6 (by kernel_rfl)
       replace o1 : aa.tmps[6]? = some (.int .i64 (cN : Int)) := o1
       go_wp2_with fail
       exact ⟨_, rfl, gRefl _ _, rfl, hZ2.light (by decide)⟩
     · intro ys done W aa hE hn hF2 hD2 hZ2 hG hO2
       replace hE : W6.grownBy W (Value.slice yO x.own.length dO).ownBlock := hE
       have o1 := hO2 5 (by kernel_rfl)
       replace o1 : aa.tmps[5]? = some (.slice (some ⟨gl, 0, none⟩) us.length dC) := o1
       go_wp2_with fail
       exact ⟨_, rfl, gRefl _ _, rfl, hZ2.light (by decide)⟩
     · intro ys done W aa hE hn hF2 hD2 hZ2 hG hO2
       replace hE : W6.grownBy W (Value.slice yO x.own.length dO).ownBlock := hE
       have o1 := hO2 6 (by kernel_rfl)
       replace o1 : aa.tmps[6]? = some (.int .i64 (cN : Int)) := o1
       go_wp2_with fail
       exact ⟨_, rfl, gRefl _ _, rfl, hZ2.light (by decide)⟩
     · intro ys done W aa hE hn hF2 hD2 hZ2 hG hO2
       replace hE : W6.grownBy W (Value.slice yO x.own.length dO).ownBlock := hE
       have v2 := hF2 2 (by decide) (hD2 2 (by kernel_rfl))
       replace v2 : ys 2 = .slice (some ⟨gl, 0, none⟩) us.length dC := v2
       have g2 := hG 2 119 rfl (Nat.le_of_ble_eq_true rfl)
       rw [v2] at g2
       have v3 := hF2 3 (by decide) (hD2 3 (by kernel_rfl))
       replace v3 : ys 3 = .int .i64 (cN : Int) := v3
       have g3 := hG 3 120 rfl (Nat.le_of_ble_eq_true rfl)
       rw [v3] at g3
       go_wp2_with fail
       exact ⟨_, rfl, gRefl _ _, rfl, hZ2.light (by decide)⟩
     · intro ys done W aa hE hn hF2 hD2 hZ2 hG hO2
       replace hE : W6.grownBy W (Value.slice yO x.own.length dO).ownBlock := hE
       have v4 := hF2 4 (by decide) (hD2 4 (by kernel_rfl))
       replace v4 : ys 4 = .pointer (some ⟨gl, cN * 2, none⟩) := v4
       have g4 := hG 4 121 rfl (Nat.le_of_ble_eq_true rfl)
       rw [v4] at g4
       go_wp2_with fail
       exact ⟨_, rfl, gRefl _ _, rfl, hZ2.light (by decide)⟩
     · intro ys done W aa hE hn hF2 hD2 hZ2 hG hO2
       replace hE : W6.grownBy W (Value.slice yO x.own.length dO).ownBlock := hE
       have v5 := hF2 5 (by decide) (hD2 5 (by kernel_rfl))
       replace v5 : ys 5 = .pointer (some ⟨gl, cN * 2 + 1, none⟩) := v5
       have g5 := hG 5 122 rfl (Nat.le_of_ble_eq_true rfl)
       rw [v5] at g5
       have hcr := (hl.kept hE (rowApart hl hO (by decide))).cellAt (cN * 2 + 1) (by omega)
       rw [show cN * 2 + 1 = 2 * cN + 1 by omega, (flatC_get hu3h.out).2, show 2 * cN + 1 = cN * 2 + 1 by omega] at hcr
       go_wp2_with fail
       exact ⟨_, rfl, gRefl _ _, rfl, hZ2.light (by decide)⟩
     · intro ys done W aa hE hn hF2 hD2 hZ2 hG hO2
       replace hE : W6.grownBy W (Value.slice yO x.own.length dO).ownBlock := hE
       have o1 := hO2 2 (by kernel_rfl)
       replace o1 : aa.tmps[2]? = some (.pointer (some ⟨w.heap.size, 0, none⟩)) := o1
       go_wp2_with fail
       exact ⟨_, rfl, gRefl _ _, rfl, hZ2.light (by decide)⟩
     · intro ys done W aa hE hn hF2 hD2 hZ2 hG hO2
       replace hE : W6.grownBy W (Value.slice yO x.own.length dO).ownBlock := hE
       have v7 := hF2 7 (by decide) (hD2 7 (by kernel_rfl))
       replace v7 : ys 7 = .pointer (some ⟨w.heap.size, 2, none⟩) := v7
       have g7 := hG 7 124 rfl (Nat.le_of_ble_eq_true rfl)
       rw [v7] at g7
       have t2 := (gAt hT hE (fun e => by have := (hO.lt _ e.symm).1; omega)).cell 2
       simp at t2
       go_wp2_with fail
       exact ⟨_, rfl, gRefl _ _, rfl, hZ2.light (by decide)⟩
     · intro ys done W aa hE hn hF2 hD2 hZ2 hG hO2
       replace hE : W6.grownBy W (Value.slice yO x.own.length dO).ownBlock := hE
       have v8 := hF2 8 (by decide) (hD2 8 (by kernel_rfl))
       replace v8 : ys 8 = .int .i64 N := v8
       have g8 := hG 8 125 rfl (Nat.le_of_ble_eq_true rfl)
       rw [v8] at g8
       go_wp2_with fail
       exact ⟨_, rfl, World.grownBy_alloc _ _ _, ⟨_, rfl, hE.size, At.new _ _ _⟩, (hZ2.alloc _).light (by decide)⟩
     · intro ys done W aa hE hn hF2 hD2 hZ2 hG hO2
       replace hE : W6.grownBy W (Value.slice yO x.own.length dO).ownBlock := hE
       have v6 := hF2 6 (by decide) (hD2 6 (by kernel_rfl))
       replace v6 : ys 6 = .slice yO x.own.length dO := v6
       have g6 := hG 6 123 rfl (Nat.le_of_ble_eq_true rfl)
       rw [v6] at g6
       obtain ⟨g1, e9, hg1, hgA⟩ : ∃ g1 : Nat, ys 9 = .slice (some ⟨g1, 0, none⟩) 1 1 ∧ W6.heap.size ≤ g1 ∧ At W g1 3 #[.int .i64 N] := hF2 9 (by decide) (hD2 9 (by kernel_rfl))
       have g9 := hG 9 126 rfl (Nat.le_of_ble_eq_true rfl)
       rw [e9] at g9
       have hown := hZ2.1 hn
       have hsz8 := hE.size
       refine (wpList_append_own _ rfl _ _ 46 rfl (w.heap.size + 3) 3 iI (.int .i64 0) 1 8 (by kernel_rfl) hiI hI0 hIs hIb rfl (by decide) _ _ _ (show aa.tmps.getD 123 undef = .slice yO x.own.length dO by simp [g6]) hown ⟨g1, 0, none⟩ 1 1 [.int .i64 N] (show aa.tmps.getD 126 undef = _ by simp [g9]) rfl (World.news_of_block (cs := #[.int .i64 N]) (t := 3) (fr := (0, 0)) hgA) (by simp [Value.oneCell']) (by unfold maxLen; omega) (by omega) (by omega) ?_)
       intro v7 w8 hown7 hgrow7 hnil7
       refine wpList_nil ?_
       exact ⟨v7, rfl, hgrow7, trivial, ⟨fun h => by simp [Sched.mark] at h, fun _ => by rw [upd_eqD]; exact hown7⟩⟩
    case hQ2 =>
     intro ys W hE hF2 hZ2
     obtain ⟨done, hdo, hZ2⟩ := hZ2
     replace hE : W6.grownBy W (Value.slice yO x.own.length dO).ownBlock := hE
     have hown7 := hZ2.2 (hdo 10 (by decide))
     have v0 : ys 0 = .slice (some ⟨gl, 0, none⟩) us.length dC := hF2 0 (by decide)
     have v1 : ys 1 = .int .i64 (cN : Int) := hF2 1 (by decide)
     obtain ⟨g7, cap7, e10, _, _, _, _⟩ := rowSome hown7 (by omega)
     have hOo := hO
     replace hT := gAt hT hE (fun e => by have := (hOo.lt _ e.symm).1; omega)
     replace hX := gAt hX hE (fun e => by have := (hOo.lt _ e.symm).1; omega)
     replace hZ := gAt hZ hE (fun e => by have := (hOo.lt _ e.symm).1; omega)
     replace hR := hR.kept hE (rowApart hR hOo (by decide))
     replace hL := hL.kept hE (rowApart hL hOo (by decide))
     replace hl := hl.kept hE (rowApart hl hOo (by decide))
     replace hF := hF.kept hE (rowApart hF hOo (by decide))
     replace hb := hb.grown hE hbn (fun x e => by have := (hOo.lt _ e).1; omega)
     replace hsz := Nat.le_trans hsz hE.size
     replace hbn := hb.size
     rw [e10] at hown7
     have hO := hown7
     simp only [List.take_succ_cons, List.take_zero, List.drop_succ_cons, List.drop_zero, Sched.fill, v0, v1]
     rw [show ys (0 + 1 + 1 + 1 + 1 + 1 + 1 + 1 + 1 + 1 + 1) = .slice (some ⟨g7, 0, none⟩) (x.own.length + 1) cap7 from e10]
     clear hF2 hZ2 hdo v0 v1 e10 hown7 hOo hE
     have q1 := hl.cellAt (cN * 2 + 1) (by omega)
     rw [show cN * 2 + 1 = 2 * cN + 1 by omega, (flatC_get hu3h.out).2, show 2 * cN + 1 = cN * 2 + 1 by omega] at q1
     have qf := hl.frozenAt (cN * 2 + 1)
     go_simp
     go_upto_region 35 with fail
     clear q1 qf
     have hP := put_grown W gl (cN * 2 + 1) (.slice (some ⟨g7, 0, none⟩) (x.own.length + 1) cap7)
     replace hT := hT.far (b := gl) (by omega) (cN * 2 + 1) (.slice (some ⟨g7, 0, none⟩) (x.own.length + 1) cap7)
     replace hX := hX.far (b := gl) (by omega) (cN * 2 + 1) (.slice (some ⟨g7, 0, none⟩) (x.own.length + 1) cap7)
     replace hZ := hZ.far (b := gl) (by omega) (cN * 2 + 1) (.slice (some ⟨g7, 0, none⟩) (x.own.length + 1) cap7)
     replace hR := hR.kept hP (rowApart hR hl (by decide))
     replace hL := hL.kept hP (rowApart hL hl (by decide))
     replace hF := hF.kept hP (rowApart hF hl (by decide))
     replace hO := hO.kept hP (rowApart hO hl (by decide))
     replace hl := (hl.stored (cN * 2 + 1) (.slice (some ⟨g7, 0, none⟩) (x.own.length + 1) cap7)).1
     rw [show cN * 2 + 1 = 2 * cN + 1 by omega, flatC_set (.slice (some ⟨g7, 0, none⟩) (x.own.length + 1) cap7) hu3h.out, List.set_set, show 2 * cN + 1 = cN * 2 + 1 by omega] at hl
     replace hb := hb.grown hP hbn (fun x e => by cases e; omega)
     replace hsz := Nat.le_trans hsz hP.size
     replace hbn := hb.size
     clear hP
     replace hl : (W.setCell ⟨gl, cN * 2 + 1, none⟩ (.slice (some ⟨g7, 0, none⟩) (x.own.length + 1) cap7)).ownsRow (w.heap.size + 3) 53 2 (.slice (some ⟨gl, 0, none⟩) us.length dC) us.length (flatC (us.set cN (.slice yF x.fleet.length dF, .slice (some ⟨g7, 0, none⟩) (x.own.length + 1) cap7))) := hl
     replace hO : (W.setCell ⟨gl, cN * 2 + 1, none⟩ (.slice (some ⟨g7, 0, none⟩) (x.own.length + 1) cap7)).ownsRow (w.heap.size + 3) 3 1 (.slice (some ⟨g7, 0, none⟩) (x.own.length + 1) cap7) (x.own ++ [N]).length (flatI (x.own ++ [N])) := by rw [flatI_snoc, List.length_append]; exact hO
     obtain ⟨W7, hWn⟩ : ∃ X, W.setCell ⟨gl, cN * 2 + 1, none⟩ (.slice (some ⟨g7, 0, none⟩) (x.own.length + 1) cap7) = X := ⟨_, rfl⟩
     rw [hWn] at hT hX hZ hb hbn hsz hR hL hl hF hO ⊢
     clear hWn
     have hown7 : ∀ r ∈ x.own ++ [N], I64 r := fun r hr => by
       rcases List.mem_append.1 hr with hr | hr
       · exact hown64 r hr
       · simp at hr; subst hr; exact hNI
     have hSX := mkX (nd := s.draws) (s.cm) (s.rv) (s.sch) hSh.out hb hu'.out hx'.out (reqs := s.reqs) (lots := s.lots) (fl := x.fleet) (own := x.own ++ [N]) hR hL hl hF hO hD
     have hfair := mkFair hdrh.out cN (reqs := s.reqs) (lots := s.lots) (fl := x.fleet) (own := x.own ++ [N]) (s.cm) (s.rv) (s.sch) (s.draws) (by first | omega | (simp; omega) | simp) (by first | omega | (simp; omega) | simp) (by first | omega | (simp; omega) | simp) hown7 hlot64
     have p0 := hX.cell 0
     have p1 := hX.cell 1
     have p2 := hX.cell 2
     have p3 := hX.cell 3
     have p4 := hX.cell 4
     have p5 := hX.cell 5
     have p6 := hX.cell 6
     simp at p0 p1 p2 p3 p4 p5 p6
     have r0 := hZ.cell 0
     have r1 := hZ.cell 1
     have r2 := hZ.cell 2
     have r3 := hZ.cell 3
     have r4 := hZ.cell 4
     have r5 := hZ.cell 5
     have r6 := hZ.cell 6
     simp at r0 r1 r2 r3 r4 r5 r6
     have rf := hZ.free
     have hSXh := Lib.hid hSX
     have hfairh := Lib.hid hfair
     have hZh := Lib.hid hZ
     have hbh := Lib.hid hb
     clear hSX hfair hZ hb hX hT hR hL hl hF hO
     go_wp2_with fail
     have hP := (((((((hZh.out.put 0 (.slice yR s.reqs.length dR)).put 1 (.slice (some ⟨gl, 0, none⟩) us.length dC)).put 2 (.slice yL s.lots.length dL)).put 3 (.int .i64 s.cm)).put 4 (.int .i64 s.rv)).put 5 (.int .i64 s.sch)).put 6 (.slice xD s.draws cD))
     simp at hP
     have hG : W7.grownBy _ (some (w.heap.size + 1 + 1)) := ((((((put_grown _ (w.heap.size + 1 + 1) 0 (.slice yR s.reqs.length dR)).trans (put_grown _ (w.heap.size + 1 + 1) 1 (.slice (some ⟨gl, 0, none⟩) us.length dC))).trans (put_grown _ (w.heap.size + 1 + 1) 2 (.slice yL s.lots.length dL))).trans (put_grown _ (w.heap.size + 1 + 1) 3 (.int .i64 s.cm))).trans (put_grown _ (w.heap.size + 1 + 1) 4 (.int .i64 s.rv))).trans (put_grown _ (w.heap.size + 1 + 1) 5 (.int .i64 s.sch))).trans (put_grown _ (w.heap.size + 1 + 1) 6 (.slice xD s.draws cD))
     have hSX2 := hSXh.out.keep hG hbn (fun y e => by cases e; left; omega)
     have hB2 := hbh.out.grown hG hbn (fun y e => by cases e; omega)
     exact bodyPost_ret (res_scene rfl rfl hP) rfl ⟨⟨_, _, _, _, _, ⟨s.reqs, s.cars.set cN ⟨x.fleet, x.own ++ [N]⟩, s.lots, s.cm, s.rv, s.sch, s.draws⟩, rfl, hSX2.at_ hB2.size, hfairh.out, (by first | omega | (simp; omega) | simp), (by first | omega | (simp; omega) | simp)⟩, hB2⟩
  have hw1011 : wh % 12 = 10 ∨ wh % 12 = 11 := by omega
  by_cases hR0 : 0 < s.reqs.length
  · skip
    obtain ⟨gr, capr, hgr0, hgr, hgr2, _, _⟩ := rowSome hR hR0
    obtain ⟨hgr3, hgr4⟩ : yR = some ⟨gr, 0, none⟩ ∧ dR = capr := by simpa using hgr0
    subst hgr3 hgr4
    clear hgr0
    obtain ⟨kN, hkN⟩ : ∃ kN : Nat, ax % (s.reqs.length : Int) = kN := ⟨(ax % (s.reqs.length : Int)).toNat, (Int.toNat_of_nonneg (Int.emod_nonneg _ (by omega))).symm⟩
    have hkl : kN < s.reqs.length := by
      have := Int.emod_lt_of_pos ax (show (0 : Int) < s.reqs.length by omega)
      omega
    have hz2 : ((s.reqs.length : Int) == 0) = false := beq_eq_false_iff_ne.2 (by omega)
    have q0 := hX.cell 0
    simp at q0
    obtain ⟨rq, hjx⟩ : ∃ rq, s.reqs[kN]? = some rq := ⟨_, List.getElem?_eq_getElem hkl⟩
    have hjxh := Lib.hid hjx
    clear hjx
    go_upto_region 11 with fail
    try rw [hkN]
    have e1 := hR.cellAt (kN * 10 + 9) (by omega)
    have e2 := flat_get (rowsLen (f := rqV) (m := 10) (fun _ => rfl) s.reqs) kN (rqV rq) (by rw [List.getElem?_map, hjxh.out]; rfl) 9 _ rfl
    unfold flatR at e1
    rw [e2] at e1
    have ef := hR.frozenAt (kN * 10 + 9)
    clear e2 hkN hz2
    go_upto_region 12 with fail
    clear e1 ef q0
    have hjx := hjxh.out
    have hP := put_grown W6 gr (kN * 10 + 9) (.int .i64 N)
    replace hT := hT.far (b := gr) (by omega) (kN * 10 + 9) (.int .i64 N)
    replace hX := hX.far (b := gr) (by omega) (kN * 10 + 9) (.int .i64 N)
    replace hZ := hZ.far (b := gr) (by omega) (kN * 10 + 9) (.int .i64 N)
    replace hL := hL.kept hP (rowApart hL hR (by decide))
    replace hl := hl.kept hP (rowApart hl hR (by decide))
    replace hF := hF.kept hP (rowApart hF hR (by decide))
    replace hO := hO.kept hP (rowApart hO hR (by decide))
    have hst := (hR.stored (kN * 10 + 9) (.int .i64 N)).1
    have hfs := flat_setT (f := rqV) (m := 10) (fun _ => rfl) (x := rq) (x' := (⟨rq.fx, rq.fy, rq.tx, rq.ty, rq.pe, rq.pl, rq.de, rq.dl, rq.ld, N⟩ : Rq)) (i := 9) (v := .int .i64 N) (by decide) rfl (l := s.reqs) (j := kN) hjx
    unfold flatR at hst
    rw [hfs] at hst
    replace hR := hst
    replace hb := hb.grown hP hbn (fun x e => by cases e; omega)
    replace hsz := Nat.le_trans hsz hP.size
    replace hbn := hb.size
    clear hP hst hfs
    replace hR : (W6.setCell ⟨gr, kN * 10 + 9, none⟩ (.int .i64 N)).ownsRow (w.heap.size + 3) 66 10 (.slice (some ⟨gr, 0, none⟩) s.reqs.length dR) s.reqs.length (flatR (s.reqs.set kN (⟨rq.fx, rq.fy, rq.tx, rq.ty, rq.pe, rq.pl, rq.de, rq.dl, rq.ld, N⟩ : Rq))) := hR
    obtain ⟨W7, hWn⟩ : ∃ X, W6.setCell ⟨gr, kN * 10 + 9, none⟩ (.int .i64 N) = X := ⟨_, rfl⟩
    rw [hWn] at hT hX hZ hb hbn hsz hR hL hl hF hO ⊢
    clear hWn
    clear hjx
    replace tt0 := hT.cell 0
    replace tt1 := hT.cell 1
    replace tt2 := hT.cell 2
    simp at tt0 tt1 tt2
    have q0 := hX.cell 0
    simp at q0
    have hjx : (s.reqs.set kN (⟨rq.fx, rq.fy, rq.tx, rq.ty, rq.pe, rq.pl, rq.de, rq.dl, rq.ld, N⟩ : Rq))[kN]? = some (⟨rq.fx, rq.fy, rq.tx, rq.ty, rq.pe, rq.pl, rq.de, rq.dl, rq.ld, N⟩ : Rq) := List.getElem?_set_self hkl
    have e1 := hR.cellAt (kN * 10 + 2) (by omega)
    have e2 := flat_get (rowsLen (f := rqV) (m := 10) (fun _ => rfl) (s.reqs.set kN (⟨rq.fx, rq.fy, rq.tx, rq.ty, rq.pe, rq.pl, rq.de, rq.dl, rq.ld, N⟩ : Rq))) kN (rqV (⟨rq.fx, rq.fy, rq.tx, rq.ty, rq.pe, rq.pl, rq.de, rq.dl, rq.ld, N⟩ : Rq)) (by rw [List.getElem?_map, hjx]; rfl) 2 _ rfl
    unfold flatR at e1
    rw [e2] at e1
    have ef := hR.frozenAt (kN * 10 + 2)
    have hjx1 := Lib.hid hjx
    clear e2 hjx
    go_upto_region 13 with fail
    obtain ⟨tx, htx⟩ : ∃ tx, wrap64 (1000 + N) = tx := ⟨_, rfl⟩
    rw [htx]
    clear e1 ef q0 htx
    have hjx := hjx1.out
    have hP := put_grown W7 gr (kN * 10 + 2) (.int .i64 tx)
    replace hT := hT.far (b := gr) (by omega) (kN * 10 + 2) (.int .i64 tx)
    replace hX := hX.far (b := gr) (by omega) (kN * 10 + 2) (.int .i64 tx)
    replace hZ := hZ.far (b := gr) (by omega) (kN * 10 + 2) (.int .i64 tx)
    replace hL := hL.kept hP (rowApart hL hR (by decide))
    replace hl := hl.kept hP (rowApart hl hR (by decide))
    replace hF := hF.kept hP (rowApart hF hR (by decide))
    replace hO := hO.kept hP (rowApart hO hR (by decide))
    have hst := (hR.stored (kN * 10 + 2) (.int .i64 tx)).1
    have hfs := flat_setT (f := rqV) (m := 10) (fun _ => rfl) (x := (⟨rq.fx, rq.fy, rq.tx, rq.ty, rq.pe, rq.pl, rq.de, rq.dl, rq.ld, N⟩ : Rq)) (x' := (⟨rq.fx, rq.fy, tx, rq.ty, rq.pe, rq.pl, rq.de, rq.dl, rq.ld, N⟩ : Rq)) (i := 2) (v := .int .i64 tx) (by decide) rfl (l := (s.reqs.set kN (⟨rq.fx, rq.fy, rq.tx, rq.ty, rq.pe, rq.pl, rq.de, rq.dl, rq.ld, N⟩ : Rq))) (j := kN) hjx
    unfold flatR at hst
    rw [hfs] at hst
    replace hR := hst
    replace hb := hb.grown hP hbn (fun x e => by cases e; omega)
    replace hsz := Nat.le_trans hsz hP.size
    replace hbn := hb.size
    clear hP hst hfs
    rw [List.set_set] at hR
    replace hR : (W7.setCell ⟨gr, kN * 10 + 2, none⟩ (.int .i64 tx)).ownsRow (w.heap.size + 3) 66 10 (.slice (some ⟨gr, 0, none⟩) s.reqs.length dR) (s.reqs.set kN (⟨rq.fx, rq.fy, tx, rq.ty, rq.pe, rq.pl, rq.de, rq.dl, rq.ld, N⟩ : Rq)).length (flatR (s.reqs.set kN (⟨rq.fx, rq.fy, tx, rq.ty, rq.pe, rq.pl, rq.de, rq.dl, rq.ld, N⟩ : Rq))) := by rw [List.length_set]; exact hR
    obtain ⟨W8, hWn⟩ : ∃ X, W7.setCell ⟨gr, kN * 10 + 2, none⟩ (.int .i64 tx) = X := ⟨_, rfl⟩
    rw [hWn] at hT hX hZ hb hbn hsz hR hL hl hF hO ⊢
    clear hWn
    clear hjx
    replace tt0 := hT.cell 0
    replace tt1 := hT.cell 1
    replace tt2 := hT.cell 2
    simp at tt0 tt1 tt2
    by_cases hL0 : 0 < s.lots.length
    · rcases hw1011 with hw | hw
      · skip
        have hSX := mkX (nd := s.draws) (s.cm) (s.rv) (s.sch) hSh.out hb hu'.out hx'.out (reqs := (s.reqs.set kN (⟨rq.fx, rq.fy, tx, rq.ty, rq.pe, rq.pl, rq.de, rq.dl, rq.ld, N⟩ : Rq))) (lots := s.lots) (fl := x.fleet) (own := x.own) hR hL hl hF hO hD
        have hfair := mkFair hdrh.out cN (reqs := (s.reqs.set kN (⟨rq.fx, rq.fy, tx, rq.ty, rq.pe, rq.pl, rq.de, rq.dl, rq.ld, N⟩ : Rq))) (lots := s.lots) (fl := x.fleet) (own := x.own) (s.cm) (s.rv) (s.sch) (s.draws) (by first | omega | (simp; omega) | simp) (by first | omega | (simp; omega) | simp) (by first | omega | (simp; omega) | simp) hown64 hlot64
        have p0 := hX.cell 0
        have p1 := hX.cell 1
        have p2 := hX.cell 2
        have p3 := hX.cell 3
        have p4 := hX.cell 4
        have p5 := hX.cell 5
        have p6 := hX.cell 6
        simp at p0 p1 p2 p3 p4 p5 p6
        have r0 := hZ.cell 0
        have r1 := hZ.cell 1
        have r2 := hZ.cell 2
        have r3 := hZ.cell 3
        have r4 := hZ.cell 4
        have r5 := hZ.cell 5
        have r6 := hZ.cell 6
        simp at r0 r1 r2 r3 r4 r5 r6
        have rf := hZ.free
        have hSXh := Lib.hid hSX
        have hfairh := Lib.hid hfair
        have hZh := Lib.hid hZ
        have hbh := Lib.hid hb
        clear hSX hfair hZ hb hX hT hR hL hl hF hO
        go_wp2_with fail
        have hP := (((((((hZh.out.put 0 (.slice (some ⟨gr, 0, none⟩) s.reqs.length dR)).put 1 (.slice (some ⟨gl, 0, none⟩) us.length dC)).put 2 (.slice yL s.lots.length dL)).put 3 (.int .i64 s.cm)).put 4 (.int .i64 s.rv)).put 5 (.int .i64 s.sch)).put 6 (.slice xD s.draws cD))
        simp at hP
        have hG : W8.grownBy _ (some (w.heap.size + 1 + 1)) := ((((((put_grown _ (w.heap.size + 1 + 1) 0 (.slice (some ⟨gr, 0, none⟩) s.reqs.length dR)).trans (put_grown _ (w.heap.size + 1 + 1) 1 (.slice (some ⟨gl, 0, none⟩) us.length dC))).trans (put_grown _ (w.heap.size + 1 + 1) 2 (.slice yL s.lots.length dL))).trans (put_grown _ (w.heap.size + 1 + 1) 3 (.int .i64 s.cm))).trans (put_grown _ (w.heap.size + 1 + 1) 4 (.int .i64 s.rv))).trans (put_grown _ (w.heap.size + 1 + 1) 5 (.int .i64 s.sch))).trans (put_grown _ (w.heap.size + 1 + 1) 6 (.slice xD s.draws cD))
        have hSX2 := hSXh.out.keep hG hbn (fun y e => by cases e; left; omega)
        have hB2 := hbh.out.grown hG hbn (fun y e => by cases e; omega)
        exact bodyPost_ret (res_scene rfl rfl hP) rfl ⟨⟨_, _, _, _, _, ⟨(s.reqs.set kN (⟨rq.fx, rq.fy, tx, rq.ty, rq.pe, rq.pl, rq.de, rq.dl, rq.ld, N⟩ : Rq)), s.cars.set cN ⟨x.fleet, x.own⟩, s.lots, s.cm, s.rv, s.sch, s.draws⟩, rfl, hSX2.at_ hB2.size, hfairh.out, (by first | omega | (simp; omega) | simp), (by first | omega | (simp; omega) | simp)⟩, hB2⟩
      · skip
        obtain ⟨gt, capt, hgt0, hgt, hgt2, _, _⟩ := rowSome hL hL0
        obtain ⟨hgt3, hgt4⟩ : yL = some ⟨gt, 0, none⟩ ∧ dL = capt := by simpa using hgt0
        subst hgt3 hgt4
        clear hgt0
        obtain ⟨mN, hmN⟩ : ∃ mN : Nat, ax % (s.lots.length : Int) = mN := ⟨(ax % (s.lots.length : Int)).toNat, (Int.toNat_of_nonneg (Int.emod_nonneg _ (by omega))).symm⟩
        have hml : mN < s.lots.length := by
          have := Int.emod_lt_of_pos ax (show (0 : Int) < s.lots.length by omega)
          omega
        have hz3 : ((s.lots.length : Int) == 0) = false := beq_eq_false_iff_ne.2 (by omega)
        have q0 := hX.cell 0
        simp at q0
        have q2 := hX.cell 2
        simp at q2
        have kq2 := cell_regrown q2
        have kt1 := cell_regrown tt1
        have kt2 := cell_regrown tt2
        obtain ⟨lv, hlv⟩ : ∃ lv, s.lots[mN]? = some lv := ⟨_, List.getElem?_eq_getElem hml⟩
        have hlvh := Lib.hid hlv
        clear hlv
        go_upto_region 14 with fail
        refine Tail.wp_region_below_tail 11 (by kernel_rfl) (by kernel_rfl) (by kernel_rfl) ?_
        simp only [List.take_succ_cons, List.take_zero, List.drop_succ_cons, List.drop_zero]
        repeat (go_big_quiet_step (fail))
        refine wpQuiet_nil ?_
        intro _ hw'
        obtain ⟨⟨dq, osq⟩, hw''⟩ := hw'
        subst hw''
        have hg8 := Below.grow (below_regrown W8 dq osq)
        replace hT := gAt hT hg8 (by simp)
        replace hX := gAt hX hg8 (by simp)
        replace hZ := gAt hZ hg8 (by simp)
        replace hR := hR.kept hg8 (rowFree hR (fun x e => by cases e))
        replace hL := hL.kept hg8 (rowFree hL (fun x e => by cases e))
        replace hl := hl.kept hg8 (rowFree hl (fun x e => by cases e))
        replace hF := hF.kept hg8 (rowFree hF (fun x e => by cases e))
        replace hO := hO.kept hg8 (rowFree hO (fun x e => by cases e))
        replace hb := hb.grown hg8 hbn (fun x e => by cases e)
        replace hsz := Nat.le_trans hsz hg8.size
        replace hbn := hb.size
        clear hg8
        obtain ⟨W9, hWn⟩ : ∃ X, grow (redrawn W8 dq) osq = X := ⟨_, rfl⟩
        rw [hWn] at hT hX hZ hb hbn hsz hR hL hl hF hO ⊢
        clear hWn
        try simp only [hmN]
        have e1 := hL.cellAt (mN * 2 + 1) (by omega)
        have e2 := flat_get (rowsLen (f := ltV) (m := 2) (fun _ => rfl) s.lots) mN (ltV lv) (by rw [List.getElem?_map, hlvh.out]; rfl) 1 _ rfl
        unfold flatL at e1
        rw [e2] at e1
        have ef := hL.frozenAt (mN * 2 + 1)
        clear e2 hmN hz3 q0 q2 kq2 kt1 kt2
        go_upto_region 35 with fail
        have hjx := hlvh.out
        have hP := put_grown W9 gt (mN * 2 + 1) (.int .i64 N)
        replace hT := hT.far (b := gt) (by omega) (mN * 2 + 1) (.int .i64 N)
        replace hX := hX.far (b := gt) (by omega) (mN * 2 + 1) (.int .i64 N)
        replace hZ := hZ.far (b := gt) (by omega) (mN * 2 + 1) (.int .i64 N)
        replace hR := hR.kept hP (rowApart hR hL (by decide))
        replace hl := hl.kept hP (rowApart hl hL (by decide))
        replace hF := hF.kept hP (rowApart hF hL (by decide))
        replace hO := hO.kept hP (rowApart hO hL (by decide))
        have hst := (hL.stored (mN * 2 + 1) (.int .i64 N)).1
        have hfs := flat_setT (f := ltV) (m := 2) (fun _ => rfl) (x := lv) (x' := (⟨lv.req, N⟩ : Lt)) (i := 1) (v := .int .i64 N) (by decide) rfl (l := s.lots) (j := mN) hjx
        unfold flatL at hst
        rw [hfs] at hst
        replace hL := hst
        replace hb := hb.grown hP hbn (fun x e => by cases e; omega)
        replace hsz := Nat.le_trans hsz hP.size
        replace hbn := hb.size
        clear hP hst hfs
        clear e1 ef hjx
        replace hL : (W9.setCell ⟨gt, mN * 2 + 1, none⟩ (.int .i64 N)).ownsRow (w.heap.size + 3) 59 2 (.slice (some ⟨gt, 0, none⟩) s.lots.length dL) (s.lots.set mN (⟨lv.req, N⟩ : Lt)).length (flatL (s.lots.set mN (⟨lv.req, N⟩ : Lt))) := by rw [List.length_set]; exact hL
        obtain ⟨W10, hWn⟩ : ∃ X, W9.setCell ⟨gt, mN * 2 + 1, none⟩ (.int .i64 N) = X := ⟨_, rfl⟩
        rw [hWn] at hT hX hZ hb hbn hsz hR hL hl hF hO ⊢
        clear hWn
        have hlot7 : ∀ l ∈ s.lots.set mN (⟨lv.req, N⟩ : Lt), I64 l.req := fun l hl => by
          rcases List.mem_or_eq_of_mem_set hl with hl | rfl
          · exact hlot64 l hl
          · exact hlot64 lv (List.mem_of_getElem? hlvh.out)
        have hSX := mkX (nd := s.draws) (s.cm) (s.rv) (s.sch) hSh.out hb hu'.out hx'.out (reqs := (s.reqs.set kN (⟨rq.fx, rq.fy, tx, rq.ty, rq.pe, rq.pl, rq.de, rq.dl, rq.ld, N⟩ : Rq))) (lots := (s.lots.set mN (⟨lv.req, N⟩ : Lt))) (fl := x.fleet) (own := x.own) hR hL hl hF hO hD
        have hfair := mkFair hdrh.out cN (reqs := (s.reqs.set kN (⟨rq.fx, rq.fy, tx, rq.ty, rq.pe, rq.pl, rq.de, rq.dl, rq.ld, N⟩ : Rq))) (lots := (s.lots.set mN (⟨lv.req, N⟩ : Lt))) (fl := x.fleet) (own := x.own) (s.cm) (s.rv) (s.sch) (s.draws) (by first | omega | (simp; omega) | simp) (by first | omega | (simp; omega) | simp) (by first | omega | (simp; omega) | simp) hown64 hlot7
        have p0 := hX.cell 0
        have p1 := hX.cell 1
        have p2 := hX.cell 2
        have p3 := hX.cell 3
        have p4 := hX.cell 4
        have p5 := hX.cell 5
        have p6 := hX.cell 6
        simp at p0 p1 p2 p3 p4 p5 p6
        have r0 := hZ.cell 0
        have r1 := hZ.cell 1
        have r2 := hZ.cell 2
        have r3 := hZ.cell 3
        have r4 := hZ.cell 4
        have r5 := hZ.cell 5
        have r6 := hZ.cell 6
        simp at r0 r1 r2 r3 r4 r5 r6
        have rf := hZ.free
        have hSXh := Lib.hid hSX
        have hfairh := Lib.hid hfair
        have hZh := Lib.hid hZ
        have hbh := Lib.hid hb
        clear hSX hfair hZ hb hX hT hR hL hl hF hO
        go_wp2_with fail
        have hP := (((((((hZh.out.put 0 (.slice (some ⟨gr, 0, none⟩) s.reqs.length dR)).put 1 (.slice (some ⟨gl, 0, none⟩) us.length dC)).put 2 (.slice (some ⟨gt, 0, none⟩) s.lots.length dL)).put 3 (.int .i64 s.cm)).put 4 (.int .i64 s.rv)).put 5 (.int .i64 s.sch)).put 6 (.slice xD s.draws cD))
        simp at hP
        have hG : W10.grownBy _ (some (w.heap.size + 1 + 1)) := ((((((put_grown _ (w.heap.size + 1 + 1) 0 (.slice (some ⟨gr, 0, none⟩) s.reqs.length dR)).trans (put_grown _ (w.heap.size + 1 + 1) 1 (.slice (some ⟨gl, 0, none⟩) us.length dC))).trans (put_grown _ (w.heap.size + 1 + 1) 2 (.slice (some ⟨gt, 0, none⟩) s.lots.length dL))).trans (put_grown _ (w.heap.size + 1 + 1) 3 (.int .i64 s.cm))).trans (put_grown _ (w.heap.size + 1 + 1) 4 (.int .i64 s.rv))).trans (put_grown _ (w.heap.size + 1 + 1) 5 (.int .i64 s.sch))).trans (put_grown _ (w.heap.size + 1 + 1) 6 (.slice xD s.draws cD))
        have hSX2 := hSXh.out.keep hG hbn (fun y e => by cases e; left; omega)
        have hB2 := hbh.out.grown hG hbn (fun y e => by cases e; omega)
        exact bodyPost_ret (res_scene rfl rfl hP) rfl ⟨⟨_, _, _, _, _, ⟨(s.reqs.set kN (⟨rq.fx, rq.fy, tx, rq.ty, rq.pe, rq.pl, rq.de, rq.dl, rq.ld, N⟩ : Rq)), s.cars.set cN ⟨x.fleet, x.own⟩, (s.lots.set mN (⟨lv.req, N⟩ : Lt)), s.cm, s.rv, s.sch, s.draws⟩, rfl, hSX2.at_ hB2.size, hfairh.out, (by first | omega | (simp; omega) | simp), (by first | omega | (simp; omega) | simp)⟩, hB2⟩
    · skip
      have hSX := mkX (nd := s.draws) (s.cm) (s.rv) (s.sch) hSh.out hb hu'.out hx'.out (reqs := (s.reqs.set kN (⟨rq.fx, rq.fy, tx, rq.ty, rq.pe, rq.pl, rq.de, rq.dl, rq.ld, N⟩ : Rq))) (lots := s.lots) (fl := x.fleet) (own := x.own) hR hL hl hF hO hD
      have hfair := mkFair hdrh.out cN (reqs := (s.reqs.set kN (⟨rq.fx, rq.fy, tx, rq.ty, rq.pe, rq.pl, rq.de, rq.dl, rq.ld, N⟩ : Rq))) (lots := s.lots) (fl := x.fleet) (own := x.own) (s.cm) (s.rv) (s.sch) (s.draws) (by first | omega | (simp; omega) | simp) (by first | omega | (simp; omega) | simp) (by first | omega | (simp; omega) | simp) hown64 hlot64
      have p0 := hX.cell 0
      have p1 := hX.cell 1
      have p2 := hX.cell 2
      have p3 := hX.cell 3
      have p4 := hX.cell 4
      have p5 := hX.cell 5
      have p6 := hX.cell 6
      simp at p0 p1 p2 p3 p4 p5 p6
      have r0 := hZ.cell 0
      have r1 := hZ.cell 1
      have r2 := hZ.cell 2
      have r3 := hZ.cell 3
      have r4 := hZ.cell 4
      have r5 := hZ.cell 5
      have r6 := hZ.cell 6
      simp at r0 r1 r2 r3 r4 r5 r6
      have rf := hZ.free
      have hSXh := Lib.hid hSX
      have hfairh := Lib.hid hfair
      have hZh := Lib.hid hZ
      have hbh := Lib.hid hb
      clear hSX hfair hZ hb hX hT hR hL hl hF hO
      go_wp2_with fail
      have hP := (((((((hZh.out.put 0 (.slice (some ⟨gr, 0, none⟩) s.reqs.length dR)).put 1 (.slice (some ⟨gl, 0, none⟩) us.length dC)).put 2 (.slice yL s.lots.length dL)).put 3 (.int .i64 s.cm)).put 4 (.int .i64 s.rv)).put 5 (.int .i64 s.sch)).put 6 (.slice xD s.draws cD))
      simp at hP
      have hG : W8.grownBy _ (some (w.heap.size + 1 + 1)) := ((((((put_grown _ (w.heap.size + 1 + 1) 0 (.slice (some ⟨gr, 0, none⟩) s.reqs.length dR)).trans (put_grown _ (w.heap.size + 1 + 1) 1 (.slice (some ⟨gl, 0, none⟩) us.length dC))).trans (put_grown _ (w.heap.size + 1 + 1) 2 (.slice yL s.lots.length dL))).trans (put_grown _ (w.heap.size + 1 + 1) 3 (.int .i64 s.cm))).trans (put_grown _ (w.heap.size + 1 + 1) 4 (.int .i64 s.rv))).trans (put_grown _ (w.heap.size + 1 + 1) 5 (.int .i64 s.sch))).trans (put_grown _ (w.heap.size + 1 + 1) 6 (.slice xD s.draws cD))
      have hSX2 := hSXh.out.keep hG hbn (fun y e => by cases e; left; omega)
      have hB2 := hbh.out.grown hG hbn (fun y e => by cases e; omega)
      exact bodyPost_ret (res_scene rfl rfl hP) rfl ⟨⟨_, _, _, _, _, ⟨(s.reqs.set kN (⟨rq.fx, rq.fy, tx, rq.ty, rq.pe, rq.pl, rq.de, rq.dl, rq.ld, N⟩ : Rq)), s.cars.set cN ⟨x.fleet, x.own⟩, s.lots, s.cm, s.rv, s.sch, s.draws⟩, rfl, hSX2.at_ hB2.size, hfairh.out, (by first | omega | (simp; omega) | simp), (by first | omega | (simp; omega) | simp)⟩, hB2⟩
  · skip
    by_cases hL0 : 0 < s.lots.length
    · rcases hw1011 with hw | hw
      · skip
        have hSX := mkX (nd := s.draws) (s.cm) (s.rv) (s.sch) hSh.out hb hu'.out hx'.out (reqs := s.reqs) (lots := s.lots) (fl := x.fleet) (own := x.own) hR hL hl hF hO hD
        have hfair := mkFair hdrh.out cN (reqs := s.reqs) (lots := s.lots) (fl := x.fleet) (own := x.own) (s.cm) (s.rv) (s.sch) (s.draws) (by first | omega | (simp; omega) | simp) (by first | omega | (simp; omega) | simp) (by first | omega | (simp; omega) | simp) hown64 hlot64
        have p0 := hX.cell 0
        have p1 := hX.cell 1
        have p2 := hX.cell 2
        have p3 := hX.cell 3
        have p4 := hX.cell 4
        have p5 := hX.cell 5
        have p6 := hX.cell 6
        simp at p0 p1 p2 p3 p4 p5 p6
        have r0 := hZ.cell 0
        have r1 := hZ.cell 1
        have r2 := hZ.cell 2
        have r3 := hZ.cell 3
        have r4 := hZ.cell 4
        have r5 := hZ.cell 5
        have r6 := hZ.cell 6
        simp at r0 r1 r2 r3 r4 r5 r6
        have rf := hZ.free
        have hSXh := Lib.hid hSX
        have hfairh := Lib.hid hfair
        have hZh := Lib.hid hZ
        have hbh := Lib.hid hb
        clear hSX hfair hZ hb hX hT hR hL hl hF hO
        go_wp2_with fail
        have hP := (((((((hZh.out.put 0 (.slice yR s.reqs.length dR)).put 1 (.slice (some ⟨gl, 0, none⟩) us.length dC)).put 2 (.slice yL s.lots.length dL)).put 3 (.int .i64 s.cm)).put 4 (.int .i64 s.rv)).put 5 (.int .i64 s.sch)).put 6 (.slice xD s.draws cD))
        simp at hP
        have hG : W6.grownBy _ (some (w.heap.size + 1 + 1)) := ((((((put_grown _ (w.heap.size + 1 + 1) 0 (.slice yR s.reqs.length dR)).trans (put_grown _ (w.heap.size + 1 + 1) 1 (.slice (some ⟨gl, 0, none⟩) us.length dC))).trans (put_grown _ (w.heap.size + 1 + 1) 2 (.slice yL s.lots.length dL))).trans (put_grown _ (w.heap.size + 1 + 1) 3 (.int .i64 s.cm))).trans (put_grown _ (w.heap.size + 1 + 1) 4 (.int .i64 s.rv))).trans (put_grown _ (w.heap.size + 1 + 1) 5 (.int .i64 s.sch))).trans (put_grown _ (w.heap.size + 1 + 1) 6 (.slice xD s.draws cD))
        have hSX2 := hSXh.out.keep hG hbn (fun y e => by cases e; left; omega)
        have hB2 := hbh.out.grown hG hbn (fun y e => by cases e; omega)
        exact bodyPost_ret (res_scene rfl rfl hP) rfl ⟨⟨_, _, _, _, _, ⟨s.reqs, s.cars.set cN ⟨x.fleet, x.own⟩, s.lots, s.cm, s.rv, s.sch, s.draws⟩, rfl, hSX2.at_ hB2.size, hfairh.out, (by first | omega | (simp; omega) | simp), (by first | omega | (simp; omega) | simp)⟩, hB2⟩
      · skip
        obtain ⟨gt, capt, hgt0, hgt, hgt2, _, _⟩ := rowSome hL hL0
        obtain ⟨hgt3, hgt4⟩ : yL = some ⟨gt, 0, none⟩ ∧ dL = capt := by simpa using hgt0
        subst hgt3 hgt4
        clear hgt0
        obtain ⟨mN, hmN⟩ : ∃ mN : Nat, ax % (s.lots.length : Int) = mN := ⟨(ax % (s.lots.length : Int)).toNat, (Int.toNat_of_nonneg (Int.emod_nonneg _ (by omega))).symm⟩
        have hml : mN < s.lots.length := by
          have := Int.emod_lt_of_pos ax (show (0 : Int) < s.lots.length by omega)
          omega
        have hz3 : ((s.lots.length : Int) == 0) = false := beq_eq_false_iff_ne.2 (by omega)
        have q0 := hX.cell 0
        simp at q0
        have q2 := hX.cell 2
        simp at q2
        have kq2 := cell_regrown q2
        have kt1 := cell_regrown tt1
        have kt2 := cell_regrown tt2
        obtain ⟨lv, hlv⟩ : ∃ lv, s.lots[mN]? = some lv := ⟨_, List.getElem?_eq_getElem hml⟩
        have hlvh := Lib.hid hlv
        clear hlv
        go_upto_region 14 with fail
        refine Tail.wp_region_below_tail 11 (by kernel_rfl) (by kernel_rfl) (by kernel_rfl) ?_
        simp only [List.take_succ_cons, List.take_zero, List.drop_succ_cons, List.drop_zero]
        repeat (go_big_quiet_step (fail))
        refine wpQuiet_nil ?_
        intro _ hw'
        obtain ⟨⟨dq, osq⟩, hw''⟩ := hw'
        subst hw''
        have hg8 := Below.grow (below_regrown W6 dq osq)
        replace hT := gAt hT hg8 (by simp)
        replace hX := gAt hX hg8 (by simp)
        replace hZ := gAt hZ hg8 (by simp)
        replace hR := hR.kept hg8 (rowFree hR (fun x e => by cases e))
        replace hL := hL.kept hg8 (rowFree hL (fun x e => by cases e))
        replace hl := hl.kept hg8 (rowFree hl (fun x e => by cases e))
        replace hF := hF.kept hg8 (rowFree hF (fun x e => by cases e))
        replace hO := hO.kept hg8 (rowFree hO (fun x e => by cases e))
        replace hb := hb.grown hg8 hbn (fun x e => by cases e)
        replace hsz := Nat.le_trans hsz hg8.size
        replace hbn := hb.size
        clear hg8
        obtain ⟨W7, hWn⟩ : ∃ X, grow (redrawn W6 dq) osq = X := ⟨_, rfl⟩
        rw [hWn] at hT hX hZ hb hbn hsz hR hL hl hF hO ⊢
        clear hWn
        try simp only [hmN]
        have e1 := hL.cellAt (mN * 2 + 1) (by omega)
        have e2 := flat_get (rowsLen (f := ltV) (m := 2) (fun _ => rfl) s.lots) mN (ltV lv) (by rw [List.getElem?_map, hlvh.out]; rfl) 1 _ rfl
        unfold flatL at e1
        rw [e2] at e1
        have ef := hL.frozenAt (mN * 2 + 1)
        clear e2 hmN hz3 q0 q2 kq2 kt1 kt2
        go_upto_region 35 with fail
        have hjx := hlvh.out
        have hP := put_grown W7 gt (mN * 2 + 1) (.int .i64 N)
        replace hT := hT.far (b := gt) (by omega) (mN * 2 + 1) (.int .i64 N)
        replace hX := hX.far (b := gt) (by omega) (mN * 2 + 1) (.int .i64 N)
        replace hZ := hZ.far (b := gt) (by omega) (mN * 2 + 1) (.int .i64 N)
        replace hR := hR.kept hP (rowApart hR hL (by decide))
        replace hl := hl.kept hP (rowApart hl hL (by decide))
        replace hF := hF.kept hP (rowApart hF hL (by decide))
        replace hO := hO.kept hP (rowApart hO hL (by decide))
        have hst := (hL.stored (mN * 2 + 1) (.int .i64 N)).1
        have hfs := flat_setT (f := ltV) (m := 2) (fun _ => rfl) (x := lv) (x' := (⟨lv.req, N⟩ : Lt)) (i := 1) (v := .int .i64 N) (by decide) rfl (l := s.lots) (j := mN) hjx
        unfold flatL at hst
        rw [hfs] at hst
        replace hL := hst
        replace hb := hb.grown hP hbn (fun x e => by cases e; omega)
        replace hsz := Nat.le_trans hsz hP.size
        replace hbn := hb.size
        clear hP hst hfs
        clear e1 ef hjx
        replace hL : (W7.setCell ⟨gt, mN * 2 + 1, none⟩ (.int .i64 N)).ownsRow (w.heap.size + 3) 59 2 (.slice (some ⟨gt, 0, none⟩) s.lots.length dL) (s.lots.set mN (⟨lv.req, N⟩ : Lt)).length (flatL (s.lots.set mN (⟨lv.req, N⟩ : Lt))) := by rw [List.length_set]; exact hL
        obtain ⟨W8, hWn⟩ : ∃ X, W7.setCell ⟨gt, mN * 2 + 1, none⟩ (.int .i64 N) = X := ⟨_, rfl⟩
        rw [hWn] at hT hX hZ hb hbn hsz hR hL hl hF hO ⊢
        clear hWn
        have hlot7 : ∀ l ∈ s.lots.set mN (⟨lv.req, N⟩ : Lt), I64 l.req := fun l hl => by
          rcases List.mem_or_eq_of_mem_set hl with hl | rfl
          · exact hlot64 l hl
          · exact hlot64 lv (List.mem_of_getElem? hlvh.out)
        have hSX := mkX (nd := s.draws) (s.cm) (s.rv) (s.sch) hSh.out hb hu'.out hx'.out (reqs := s.reqs) (lots := (s.lots.set mN (⟨lv.req, N⟩ : Lt))) (fl := x.fleet) (own := x.own) hR hL hl hF hO hD
        have hfair := mkFair hdrh.out cN (reqs := s.reqs) (lots := (s.lots.set mN (⟨lv.req, N⟩ : Lt))) (fl := x.fleet) (own := x.own) (s.cm) (s.rv) (s.sch) (s.draws) (by first | omega | (simp; omega) | simp) (by first | omega | (simp; omega) | simp) (by first | omega | (simp; omega) | simp) hown64 hlot7
        have p0 := hX.cell 0
        have p1 := hX.cell 1
        have p2 := hX.cell 2
        have p3 := hX.cell 3
        have p4 := hX.cell 4
        have p5 := hX.cell 5
        have p6 := hX.cell 6
        simp at p0 p1 p2 p3 p4 p5 p6
        have r0 := hZ.cell 0
        have r1 := hZ.cell 1
        have r2 := hZ.cell 2
        have r3 := hZ.cell 3
        have r4 := hZ.cell 4
        have r5 := hZ.cell 5
        have r6 := hZ.cell 6
        simp at r0 r1 r2 r3 r4 r5 r6
        have rf := hZ.free
        have hSXh := Lib.hid hSX
        have hfairh := Lib.hid hfair
        have hZh := Lib.hid hZ
        have hbh := Lib.hid hb
        clear hSX hfair hZ hb hX hT hR hL hl hF hO
        go_wp2_with fail
        have hP := (((((((hZh.out.put 0 (.slice yR s.reqs.length dR)).put 1 (.slice (some ⟨gl, 0, none⟩) us.length dC)).put 2 (.slice (some ⟨gt, 0, none⟩) s.lots.length dL)).put 3 (.int .i64 s.cm)).put 4 (.int .i64 s.rv)).put 5 (.int .i64 s.sch)).put 6 (.slice xD s.draws cD))
        simp at hP
        have hG : W8.grownBy _ (some (w.heap.size + 1 + 1)) := ((((((put_grown _ (w.heap.size + 1 + 1) 0 (.slice yR s.reqs.length dR)).trans (put_grown _ (w.heap.size + 1 + 1) 1 (.slice (some ⟨gl, 0, none⟩) us.length dC))).trans (put_grown _ (w.heap.size + 1 + 1) 2 (.slice (some ⟨gt, 0, none⟩) s.lots.length dL))).trans (put_grown _ (w.heap.size + 1 + 1) 3 (.int .i64 s.cm))).trans (put_grown _ (w.heap.size + 1 + 1) 4 (.int .i64 s.rv))).trans (put_grown _ (w.heap.size + 1 + 1) 5 (.int .i64 s.sch))).trans (put_grown _ (w.heap.size + 1 + 1) 6 (.slice xD s.draws cD))
        have hSX2 := hSXh.out.keep hG hbn (fun y e => by cases e; left; omega)
        have hB2 := hbh.out.grown hG hbn (fun y e => by cases e; omega)
        exact bodyPost_ret (res_scene rfl rfl hP) rfl ⟨⟨_, _, _, _, _, ⟨s.reqs, s.cars.set cN ⟨x.fleet, x.own⟩, (s.lots.set mN (⟨lv.req, N⟩ : Lt)), s.cm, s.rv, s.sch, s.draws⟩, rfl, hSX2.at_ hB2.size, hfairh.out, (by first | omega | (simp; omega) | simp), (by first | omega | (simp; omega) | simp)⟩, hB2⟩
    · skip
      have hSX := mkX (nd := s.draws) (s.cm) (s.rv) (s.sch) hSh.out hb hu'.out hx'.out (reqs := s.reqs) (lots := s.lots) (fl := x.fleet) (own := x.own) hR hL hl hF hO hD
      have hfair := mkFair hdrh.out cN (reqs := s.reqs) (lots := s.lots) (fl := x.fleet) (own := x.own) (s.cm) (s.rv) (s.sch) (s.draws) (by first | omega | (simp; omega) | simp) (by first | omega | (simp; omega) | simp) (by first | omega | (simp; omega) | simp) hown64 hlot64
      have p0 := hX.cell 0
      have p1 := hX.cell 1
      have p2 := hX.cell 2
      have p3 := hX.cell 3
      have p4 := hX.cell 4
      have p5 := hX.cell 5
      have p6 := hX.cell 6
      simp at p0 p1 p2 p3 p4 p5 p6
      have r0 := hZ.cell 0
      have r1 := hZ.cell 1
      have r2 := hZ.cell 2
      have r3 := hZ.cell 3
      have r4 := hZ.cell 4
      have r5 := hZ.cell 5
      have r6 := hZ.cell 6
      simp at r0 r1 r2 r3 r4 r5 r6
      have rf := hZ.free
      have hSXh := Lib.hid hSX
      have hfairh := Lib.hid hfair
      have hZh := Lib.hid hZ
      have hbh := Lib.hid hb
      clear hSX hfair hZ hb hX hT hR hL hl hF hO
      go_wp2_with fail
      have hP := (((((((hZh.out.put 0 (.slice yR s.reqs.length dR)).put 1 (.slice (some ⟨gl, 0, none⟩) us.length dC)).put 2 (.slice yL s.lots.length dL)).put 3 (.int .i64 s.cm)).put 4 (.int .i64 s.rv)).put 5 (.int .i64 s.sch)).put 6 (.slice xD s.draws cD))
      simp at hP
      have hG : W6.grownBy _ (some (w.heap.size + 1 + 1)) := ((((((put_grown _ (w.heap.size + 1 + 1) 0 (.slice yR s.reqs.length dR)).trans (put_grown _ (w.heap.size + 1 + 1) 1 (.slice (some ⟨gl, 0, none⟩) us.length dC))).trans (put_grown _ (w.heap.size + 1 + 1) 2 (.slice yL s.lots.length dL))).trans (put_grown _ (w.heap.size + 1 + 1) 3 (.int .i64 s.cm))).trans (put_grown _ (w.heap.size + 1 + 1) 4 (.int .i64 s.rv))).trans (put_grown _ (w.heap.size + 1 + 1) 5 (.int .i64 s.sch))).trans (put_grown _ (w.heap.size + 1 + 1) 6 (.slice xD s.draws cD))
      have hSX2 := hSXh.out.keep hG hbn (fun y e => by cases e; left; omega)
      have hB2 := hbh.out.grown hG hbn (fun y e => by cases e; omega)
      exact bodyPost_ret (res_scene rfl rfl hP) rfl ⟨⟨_, _, _, _, _, ⟨s.reqs, s.cars.set cN ⟨x.fleet, x.own⟩, s.lots, s.cm, s.rv, s.sch, s.draws⟩, rfl, hSX2.at_ hB2.size, hfairh.out, (by first | omega | (simp; omega) | simp), (by first | omega | (simp; omega) | simp)⟩, hB2⟩

end Go.Proofs.YtlkijbakfoabaaaDoor.Scene

/-
  Contract of the law's cut: of a scene as it may be handed in, its lists cut short.
-/
import Derived.Test.YtlkijbakfoabaaaDoorTellRows
namespace Go.Proofs.YtlkijbakfoabaaaDoor.Scene
open Go.RowKit Go.Sort Go.Proofs.YtlkijbakfoabaaaDoor.Mem
set_option linter.unusedVariables false

def cutV (k : Nat) : Value → Value
  | .slice x n c => .slice x (min n k) c
  | v => v
def cutU (u : Value × Value) : Value × Value := (cutV 5 u.1, cutV 20 u.2)
def cutC (c : Cr) : Cr := ⟨c.fleet.take 5, c.own.take 20⟩
def cutS (s : Sc) : Sc := ⟨s.reqs.take 70, (s.cars.take 9).map cutC, s.lots.take 17, s.cm, s.rv, s.sch, s.draws⟩
theorem RowB.cut {B : Nat} {W : World} {v : Value} {m k : Nat} {rows : List (List Value)} (h : RowB B W v m rows) : RowB B W (cutV k v) m (rows.take k) := by
  obtain ⟨x, cap, rfl, h1, h2, h3⟩ := h
  refine ⟨x, cap, by simp [cutV, Nat.min_comm], by simp; omega, h2, fun j r hj => ?_⟩
  rw [List.getElem?_take] at hj
  split at hj
  · exact h3 j r hj
  · cases hj
theorem flat_own_le : ∀ (cs : List Cr), ((cs.map cutC).flatMap (·.own)).length ≤ cs.length * 20
  | [] => by simp
  | c :: cs => by
    have ih := flat_own_le cs
    have h1 : (cutC c).own.length ≤ 20 := by simp [cutC]; omega
    simp only [List.map_cons, List.flatMap_cons, List.length_append, List.length_cons]
    omega
theorem cut_fair {s : Sc} (h1 : ∀ c ∈ s.cars, ∀ r ∈ c.own, I64 r) (h2 : ∀ l ∈ s.lots, I64 l.req) : Fair (cutS s) := by
  refine ⟨fun c hc r hr => ?_, fun l hl => h2 l (List.mem_of_mem_take hl), ?_, by simp [cutS]; omega, by simp [cutS]; omega, by simp [cutS]; omega⟩
  · obtain ⟨x, hx, rfl⟩ := List.mem_map.1 hc
    exact h1 x (List.mem_of_mem_take hx) r (List.mem_of_mem_take hr)
  · rw [pairs_len]
    have h3 := flat_own_le (s.cars.take 9)
    have h9 : (s.cars.take 9).length ≤ 9 := by simp; omega
    show (((s.cars.take 9).map cutC).flatMap (·.own)).length < 4294967296
    omega
def V8c (N : Nat) (l : Value) (X : Nat) (vF vF' vO vO' : Value) (lF mF lO mO : Nat) : Nat → Value → World → Prop
  | 0, y, _ => y = l
  | 1, y, _ => y = .pointer (some ⟨X, 0, none⟩)
  | 2, y, _ => y = vF
  | 3, y, _ => y = .pointer (some ⟨X, 0, none⟩)
  | 4, y, _ => y = vF
  | 5, y, _ => y = .int .i64 (lF : Int)
  | 6, y, _ => y = .int .i64 (mF : Int)
  | 7, y, _ => y = vF'
  | 8, y, _ => y = .pointer (some ⟨X, 1, none⟩)
  | 9, y, _ => y = vO
  | 10, y, _ => y = .pointer (some ⟨X, 1, none⟩)
  | 11, y, _ => y = vO
  | 12, y, _ => y = .int .i64 (lO : Int)
  | 13, y, _ => y = .int .i64 (mO : Int)
  | 14, y, _ => y = vO'
  | 15, y, _ => y = .agg #[vF', vO']
  | 16, y, W => ∃ g1 : Nat, y = .slice (some ⟨g1, 0, none⟩) 1 1 ∧ N ≤ g1 ∧ At W g1 53 #[vF', vO']
  | _, _, _ => True
theorem V8c.keep {N : Nat} {l : Value} {X : Nat} {vF vF' vO vO' : Value} {lF mF lO mO : Nat} {i : Nat} {v : Value} {W V : World} (h : V8c N l X vF vF' vO vO' lF mF lO mO i v W) (hg : W.grownBy V none) : V8c N l X vF vF' vO vO' lF mF lO mO i v V := by
  match i with
  | 0 | 1 | 2 | 3 | 4 | 5 | 6 | 7 | 8 | 9 | 10 | 11 | 12 | 13 | 14 | 15 => exact h
  | 16 =>
    obtain ⟨g, e, h1, h2⟩ := h
    exact ⟨g, e, h1, gAt h2 hg (by simp)⟩
  | i + 17 => trivial
/-- The loop over the carriers. -/
def LpCut (w W0 : World) (X : Nat) (cells : Array Value) (us : List (Value × Value)) (l v : Value) (ws : World) : Prop :=
  ∃ j : Nat, v = .int .i64 j ∧ j ≤ us.length ∧ j ≤ 9 ∧ Below w.heap.size w ws ∧ W0.heap.size ≤ ws.heap.size ∧ At ws X 33 cells ∧ At ws (X + 1) 33 zScene ∧ ws.ownsRow (X + 2) 53 2 l j (flatC ((us.take j).map cutU))
theorem LpCut.mk_ {w W0 : World} {X : Nat} {cells : Array Value} {us : List (Value × Value)} {l v : Value} {ws : World} (j : Nat) (h : v = .int .i64 j) (h1 : j ≤ us.length) (h2 : j ≤ 9) (h3 : Below w.heap.size w ws) (h4 : W0.heap.size ≤ ws.heap.size) (h5 : At ws X 33 cells) (h6 : At ws (X + 1) 33 zScene) (h7 : ws.ownsRow (X + 2) 53 2 l j (flatC ((us.take j).map cutU))) : LpCut w W0 X cells us l v ws := ⟨j, h, h1, h2, h3, h4, h5, h6, h7⟩

theorem cutX {n0 B : Nat} {w0 W : World} {xR xL : Option Addr} {cR cL mR mL nR nL : Nat} {vC l vD : Value} {us : List (Value × Value)} {s : Sc} {j : Nat}
    (hS : SceneAt n0 w0 (.slice xR nR cR) vC (.slice xL nL cL) vD us s) (hb : Below n0 w0 W) (hR : mR = min nR 70) (hL : mL = min nL 17) (hj : j = ((us.take 9).map cutU).length)
    (hl : W.ownsRow B 53 2 l j (flatC ((us.take 9).map cutU))) (hD : ∃ x cap, vD = .slice x s.draws cap ∧ s.draws ≤ cap ∧ cap ≤ maxLen) :
    SceneX n0 B W (.slice xR mR cR) l (.slice xL mL cL) vD ((us.take 9).map cutU) (cutS s) := by
  subst hR hL hj
  refine ⟨Or.inl ?_, ?_, Or.inr ⟨53, by rw [List.length_map]; exact hl⟩, fun i u c hu hc => ?_, Or.inl ?_, hD⟩
  · have := (hS.reqs.keep hb (Nat.le_refl _)).cut (k := 70)
    rw [← List.map_take] at this
    exact this
  · simp [cutS, hS.cars.len]
  · rw [List.getElem?_map] at hu
    have hc' : ((s.cars.take 9).map cutC)[i]? = some c := hc
    rw [List.getElem?_map] at hc'
    obtain ⟨u0, hu0, rfl⟩ := Option.map_eq_some_iff.1 hu
    obtain ⟨c0, hc0, rfl⟩ := Option.map_eq_some_iff.1 hc'
    rw [List.getElem?_take] at hu0 hc0
    split at hu0
    · rename_i hi
      rw [if_pos hi] at hc0
      have h1 := hS.cars.car i u0 c0 hu0 hc0
      refine ⟨Or.inl ?_, Or.inl ?_⟩
      · have := (h1.fleet.keep hb (Nat.le_refl _)).cut (k := 5)
        rw [← List.map_take] at this
        exact this
      · have := (h1.own.keep hb (Nat.le_refl _)).cut (k := 20)
        rw [← List.map_take] at this
        exact this
    · cases hu0
  · have := (hS.lots.keep hb (Nat.le_refl _)).cut (k := 17)
    rw [← List.map_take] at this
    exact this

set_option maxRecDepth 100000 in
set_option maxHeartbeats 4000000 in
theorem cut_any (w : World) (cm rv sch : Int) (vR vC vL vD : Value) (us : List (Value × Value)) (s : Sc) (hcm : s.cm = cm ∧ s.rv = rv ∧ s.sch = sch) (hS : SceneAt w.heap.size w vR vC vL vD us s) (h1 : ∀ c ∈ s.cars, ∀ r ∈ c.own, I64 r) (h2 : ∀ l ∈ s.lots, I64 l.req) :
    Calls Tryd.prog 9 #[.agg #[vR, vC, vL, .int .i64 cm, .int .i64 rv, .int .i64 sch, vD]] w fun e w' =>
      (∃ vR' vC' vL' vD' us' s', e = .returned (.agg #[vR', vC', vL', .int .i64 s'.cm, .int .i64 s'.rv, .int .i64 s'.sch, vD']) ∧ SceneAt w'.heap.size w' vR' vC' vL' vD' us' s' ∧ Fair s' ∧ s'.reqs.length ≤ 100 ∧ s'.cars.length ≤ 100) ∧ Below w.heap.size w w' := by
  have hfair := cut_fair h1 h2
  obtain ⟨xR, cR, rfl, hlR, hcR, _⟩ := id hS.reqs
  obtain ⟨xC, cC, rfl, hlC, hcC, _⟩ := id hS.cars.row
  obtain ⟨xL, cL, rfl, hlL, hcL, _⟩ := id hS.lots
  obtain ⟨xD, cD, rfl, hD1, hD2⟩ := id hS.draws
  simp only [List.length_map] at hS hlR hlC hlL ⊢
  unfold maxLen at hcR hcC hcL
  obtain ⟨W1, hW1⟩ : ∃ W1, (w.alloc (.cells #[.slice xR s.reqs.length cR, .slice xC us.length cC, .slice xL s.lots.length cL, .int .i64 cm, .int .i64 rv, .int .i64 sch, .slice xD s.draws cD] 33)).alloc (.cells #[.slice none 0 0, .slice none 0 0, .slice none 0 0, .int .i64 0, .int .i64 0, .int .i64 0, .slice none 0 0] 33) = W1 := ⟨_, rfl⟩
  have hX : At W1 w.heap.size 33 #[.slice xR s.reqs.length cR, .slice xC us.length cC, .slice xL s.lots.length cL, .int .i64 cm, .int .i64 rv, .int .i64 sch, .slice xD s.draws cD] := by rw [← hW1]; exact (At.new _ _ _).alloc _
  have hZ : At W1 (w.heap.size + 1) 33 zScene := by rw [← hW1]; exact At.new_ _ _ _ (by simp)
  have hb : Below w.heap.size w W1 := by rw [← hW1]; exact ((Below.refl _ _).alloc (Nat.le_refl _) _).alloc (by simp) _
  obtain ⟨mR, hmR⟩ : ∃ mR : Nat, min (s.reqs.length : Int) 70 = mR := ⟨min s.reqs.length 70, by omega⟩
  obtain ⟨mL, hmL⟩ : ∃ mL : Nat, min (s.lots.length : Int) 17 = mL := ⟨min s.lots.length 17, by omega⟩
  have hmR2 : mR = min s.reqs.length 70 := by omega
  have hmL2 : mL = min s.lots.length 17 := by omega
  have hmR2' := Lib.hid hmR2
  have hmL2' := Lib.hid hmL2
  have hmR3 : mR ≤ s.reqs.length ∧ mR ≤ 70 := by omega
  have hmL3 : mL ≤ s.lots.length ∧ mL ≤ 17 := by omega
  clear hmR2 hmL2
  have p0 := hX.cell 0
  simp at p0
  have f0 := hX.free 0
  have hSh := Lib.hid hS
  have hfairh := Lib.hid hfair
  have hcmh := Lib.hid hcm
  clear hS hfair h1 h2 hcm
  go_enter Tryd.func9, Tryd.ntmps9
  go_upto_region 2 with fail
  have hX2 := hX.put 0 (.slice xR mR cR)
  have hZ2 := hZ.far (b := w.heap.size) (by omega) 0 (.slice xR mR cR)
  have hb2 := hb.grown (put_grown W1 w.heap.size 0 (.slice xR mR cR)) hb.size (fun y e => by cases e; exact Nat.le_refl _)
  obtain ⟨W2, hW2⟩ : ∃ W2, W1.setCell ⟨w.heap.size, 0, none⟩ (.slice xR mR cR) = W2 := ⟨_, rfl⟩
  rw [hW2] at hX2 hZ2 hb2 ⊢
  simp at hX2
  clear hW2 hX hZ hb p0 f0 hmR
  have p2 := hX2.cell 2
  simp at p2
  have f2 := hX2.free 2
  go_upto_region 3 with fail
  have hX3 := hX2.put 2 (.slice xL mL cL)
  have hZ3 := hZ2.far (b := w.heap.size) (by omega) 2 (.slice xL mL cL)
  have hb3 := hb2.grown (put_grown W2 w.heap.size 2 (.slice xL mL cL)) hb2.size (fun y e => by cases e; exact Nat.le_refl _)
  obtain ⟨W3, hW3⟩ : ∃ W3, W2.setCell ⟨w.heap.size, 2, none⟩ (.slice xL mL cL) = W3 := ⟨_, rfl⟩
  rw [hW3] at hX3 hZ3 hb3 ⊢
  simp at hX3
  clear hW3 hX2 hZ2 hb2 p2 f2 hmL
  obtain ⟨iC, hiC, hC0, hCs, hCb⟩ := info_parts info_crD
  have hs3 : w.heap.size + 2 ≤ W3.heap.size := hZ3.inside
  go_wp2_with fail
  go_loopw [3, 4] (fun l v ws => LpCut w W3 w.heap.size #[.slice xR mR cR, .slice xC us.length cC, .slice xL mL cL, .int .i64 cm, .int .i64 rv, .int .i64 sch, .slice xD s.draws cD] us l v ws) (fun _ v _ => us.length - (intOf v).toNat)
  case atStart => exact LpCut.mk_ 0 rfl (Nat.zero_le _) (by omega) hb3 (Nat.le_refl _) hX3 hZ3 (World.ownsRow_nil _ _ _ _)
  case round =>
    obtain ⟨j, rfl, hj, hj9, hbw, hsw, hXs, hZs, hrw⟩ := hrel
    clear hX3 hZ3 hb3
    obtain ⟨yl, cl, hyl, hyl2, hyl3⟩ := rowSlice hrw
    subst hyl
    have p1 := hXs.cell 1
    simp at p1
    by_cases ha : j < us.length
    · by_cases h9 : j < 9
      · obtain ⟨x, hx⟩ : ∃ x, s.cars[j]? = some x := ⟨_, List.getElem?_eq_getElem (by rw [← hSh.out.cars.len]; exact ha)⟩
        obtain ⟨xF, capF, xO, capO, hu, hF1, hF2, hO1, hO2, hrow⟩ := hSh.out.cars.get hx
        obtain ⟨gC, oC, hxC, hgC, hcC2⟩ := RowB.row hSh.out.cars.row hrow
        subst hxC
        have c0 := (hbw.cell (p := ⟨gC, oC + j * 2 + 0, none⟩) hgC).trans (hcC2 0 _ rfl)
        have c1 := (hbw.cell (p := ⟨gC, oC + j * 2 + 1, none⟩) hgC).trans (hcC2 1 _ rfl)
        simp at c0 c1
        clear hcC2 hrow
        obtain ⟨mF, hmF⟩ : ∃ mF : Nat, min (x.fleet.length : Int) 5 = mF := ⟨min x.fleet.length 5, by omega⟩
        obtain ⟨mO, hmO⟩ : ∃ mO : Nat, min (x.own.length : Int) 20 = mO := ⟨min x.own.length 20, by omega⟩
        have hmF2 := Lib.hid (show mF = min x.fleet.length 5 by omega)
        have hmO2 := Lib.hid (show mO = min x.own.length 20 by omega)
        have hmF3 : mF ≤ x.fleet.length ∧ mF ≤ 5 := by omega
        have hmO3 : mO ≤ x.own.length ∧ mO ≤ 20 := by omega
        have hu' := Lib.hid hu
        clear hu hx
        unfold maxLen at hF2 hO2
        go_upto_region 8 with fail
        have hA := At.new wr 53 #[.slice xF x.fleet.length capF, .slice xO x.own.length capO]
        replace hXs := hXs.alloc (.cells #[.slice xF x.fleet.length capF, .slice xO x.own.length capO] 53)
        replace hZs := hZs.alloc (.cells #[.slice xF x.fleet.length capF, .slice xO x.own.length capO] 53)
        replace hrw := hrw.alloc (.cells #[.slice xF x.fleet.length capF, .slice xO x.own.length capO] 53)
        replace hbw := hbw.trans ((belowAT wr (.cells #[.slice xF x.fleet.length capF, .slice xO x.own.length capO] 53)).mono hbw.size)
        have hsw2 : W3.heap.size ≤ (wr.alloc (.cells #[.slice xF x.fleet.length capF, .slice xO x.own.length capO] 53)).heap.size := by simp; omega
        obtain ⟨Xc, hXc⟩ : ∃ Xc, Xc = wr.heap.size := ⟨_, rfl⟩
        rw [← hXc] at hA ⊢
        clear hXc c0 c1 p1 hsw
        obtain ⟨w8, hw8⟩ : ∃ w8, wr.alloc (.cells #[.slice xF x.fleet.length capF, .slice xO x.own.length capO] 53) = w8 := ⟨_, rfl⟩
        rw [hw8] at hA hXs hZs hrw hbw hsw2 ⊢
        clear hw8
        refine Sched.wp_region_sched 17 (fun W W' => W.grownBy W' none) (V8c w8.heap.size (.slice yl j cl) Xc (.slice xF x.fleet.length capF) (.slice xF mF capF) (.slice xO x.own.length capO) (.slice xO mO capO) x.fleet.length mF x.own.length mO) (fun _ _ _ => True) (by kernel_rfl) (by kernel_rfl) (by kernel_rfl) (fun h1 h2 => h1.trans h2) (fun h1 h2 => V8c.keep h1 h2) (gDrew _ _) (fun _ => trivial) (Sched.StepsA.steps (by kernel_rfl) ?hS8) ?hQ8
        case hS8 =>
         simp only [List.take_succ_cons, List.take_zero]
         refine ⟨?_, ?_, ?_, ?_, ?_, ?_, ?_, ?_, ?_, ?_, ?_, ?_, ?_, ?_, ?_, ?_, ?_, trivial⟩
         · intro ys done W aa hE hn hF hD hZ hG hO
           replace hE : w8.grownBy W none := hE
           have o1 := hO 3 (by kernel_rfl)
           replace o1 : aa.tmps[3]? = some (.slice yl j cl) := o1
           go_wp2_with fail
           exact ⟨_, rfl, gRefl _ _, rfl⟩
         · intro ys done W aa hE hn hF hD hZ hG hO
           replace hE : w8.grownBy W none := hE
           have o1 := hO 5 (by kernel_rfl)
           replace o1 : aa.tmps[5]? = some (.pointer (some ⟨Xc, 0, none⟩)) := o1
           go_wp2_with fail
           exact ⟨_, rfl, gRefl _ _, rfl⟩
         · intro ys done W aa hE hn hF hD hZ hG hO
           replace hE : w8.grownBy W none := hE
           have v1 := hF 1 (by decide) (hD 1 (by kernel_rfl))
           replace v1 : ys 1 = .pointer (some ⟨Xc, 0, none⟩) := v1
           have g1 := hG 1 39 rfl (Nat.le_of_ble_eq_true rfl)
           rw [v1] at g1
           have p := (gAt hA hE (by simp)).cell 0
           simp at p
           go_wp2_with fail
           exact ⟨_, rfl, gRefl _ _, rfl⟩
         · intro ys done W aa hE hn hF hD hZ hG hO
           replace hE : w8.grownBy W none := hE
           have o1 := hO 5 (by kernel_rfl)
           replace o1 : aa.tmps[5]? = some (.pointer (some ⟨Xc, 0, none⟩)) := o1
           go_wp2_with fail
           exact ⟨_, rfl, gRefl _ _, rfl⟩
         · intro ys done W aa hE hn hF hD hZ hG hO
           replace hE : w8.grownBy W none := hE
           have v3 := hF 3 (by decide) (hD 3 (by kernel_rfl))
           replace v3 : ys 3 = .pointer (some ⟨Xc, 0, none⟩) := v3
           have g3 := hG 3 41 rfl (Nat.le_of_ble_eq_true rfl)
           rw [v3] at g3
           have p := (gAt hA hE (by simp)).cell 0
           simp at p
           go_wp2_with fail
           exact ⟨_, rfl, gRefl _ _, rfl⟩
         · intro ys done W aa hE hn hF hD hZ hG hO
           replace hE : w8.grownBy W none := hE
           have v4 := hF 4 (by decide) (hD 4 (by kernel_rfl))
           replace v4 : ys 4 = .slice xF x.fleet.length capF := v4
           have g4 := hG 4 42 rfl (Nat.le_of_ble_eq_true rfl)
           rw [v4] at g4
           go_wp2_with fail
           exact ⟨_, rfl, gRefl _ _, rfl⟩
         · intro ys done W aa hE hn hF hD hZ hG hO
           replace hE : w8.grownBy W none := hE
           have v5 := hF 5 (by decide) (hD 5 (by kernel_rfl))
           replace v5 : ys 5 = .int .i64 (x.fleet.length : Int) := v5
           have g5 := hG 5 43 rfl (Nat.le_of_ble_eq_true rfl)
           rw [v5] at g5
           go_wp2_with fail
           exact ⟨_, rfl, gRefl _ _, rfl⟩
         · intro ys done W aa hE hn hF hD hZ hG hO
           replace hE : w8.grownBy W none := hE
           have v2 := hF 2 (by decide) (hD 2 (by kernel_rfl))
           replace v2 : ys 2 = .slice xF x.fleet.length capF := v2
           have g2 := hG 2 40 rfl (Nat.le_of_ble_eq_true rfl)
           rw [v2] at g2
           have v6 := hF 6 (by decide) (hD 6 (by kernel_rfl))
           replace v6 : ys 6 = .int .i64 (mF : Int) := v6
           have g6 := hG 6 44 rfl (Nat.le_of_ble_eq_true rfl)
           rw [v6] at g6
           go_wp2_with fail
           exact ⟨_, rfl, gRefl _ _, rfl⟩
         · intro ys done W aa hE hn hF hD hZ hG hO
           replace hE : w8.grownBy W none := hE
           have o1 := hO 5 (by kernel_rfl)
           replace o1 : aa.tmps[5]? = some (.pointer (some ⟨Xc, 0, none⟩)) := o1
           go_wp2_with fail
           exact ⟨_, rfl, gRefl _ _, rfl⟩
         · intro ys done W aa hE hn hF hD hZ hG hO
           replace hE : w8.grownBy W none := hE
           have v8 := hF 8 (by decide) (hD 8 (by kernel_rfl))
           replace v8 : ys 8 = .pointer (some ⟨Xc, 1, none⟩) := v8
           have g8 := hG 8 46 rfl (Nat.le_of_ble_eq_true rfl)
           rw [v8] at g8
           have p := (gAt hA hE (by simp)).cell 1
           simp at p
           go_wp2_with fail
           exact ⟨_, rfl, gRefl _ _, rfl⟩
         · intro ys done W aa hE hn hF hD hZ hG hO
           replace hE : w8.grownBy W none := hE
           have o1 := hO 5 (by kernel_rfl)
           replace o1 : aa.tmps[5]? = some (.pointer (some ⟨Xc, 0, none⟩)) := o1
           go_wp2_with fail
           exact ⟨_, rfl, gRefl _ _, rfl⟩
         · intro ys done W aa hE hn hF hD hZ hG hO
           replace hE : w8.grownBy W none := hE
           have v10 := hF 10 (by decide) (hD 10 (by kernel_rfl))
           replace v10 : ys 10 = .pointer (some ⟨Xc, 1, none⟩) := v10
           have g10 := hG 10 48 rfl (Nat.le_of_ble_eq_true rfl)
           rw [v10] at g10
           have p := (gAt hA hE (by simp)).cell 1
           simp at p
           go_wp2_with fail
           exact ⟨_, rfl, gRefl _ _, rfl⟩
         · intro ys done W aa hE hn hF hD hZ hG hO
           replace hE : w8.grownBy W none := hE
           have v11 := hF 11 (by decide) (hD 11 (by kernel_rfl))
           replace v11 : ys 11 = .slice xO x.own.length capO := v11
           have g11 := hG 11 49 rfl (Nat.le_of_ble_eq_true rfl)
           rw [v11] at g11
           go_wp2_with fail
           exact ⟨_, rfl, gRefl _ _, rfl⟩
         · intro ys done W aa hE hn hF hD hZ hG hO
           replace hE : w8.grownBy W none := hE
           have v12 := hF 12 (by decide) (hD 12 (by kernel_rfl))
           replace v12 : ys 12 = .int .i64 (x.own.length : Int) := v12
           have g12 := hG 12 50 rfl (Nat.le_of_ble_eq_true rfl)
           rw [v12] at g12
           go_wp2_with fail
           exact ⟨_, rfl, gRefl _ _, rfl⟩
         · intro ys done W aa hE hn hF hD hZ hG hO
           replace hE : w8.grownBy W none := hE
           have v9 := hF 9 (by decide) (hD 9 (by kernel_rfl))
           replace v9 : ys 9 = .slice xO x.own.length capO := v9
           have g9 := hG 9 47 rfl (Nat.le_of_ble_eq_true rfl)
           rw [v9] at g9
           have v13 := hF 13 (by decide) (hD 13 (by kernel_rfl))
           replace v13 : ys 13 = .int .i64 (mO : Int) := v13
           have g13 := hG 13 51 rfl (Nat.le_of_ble_eq_true rfl)
           rw [v13] at g13
           go_wp2_with fail
           exact ⟨_, rfl, gRefl _ _, rfl⟩
         · intro ys done W aa hE hn hF hD hZ hG hO
           replace hE : w8.grownBy W none := hE
           have v7 := hF 7 (by decide) (hD 7 (by kernel_rfl))
           replace v7 : ys 7 = .slice xF mF capF := v7
           have g7 := hG 7 45 rfl (Nat.le_of_ble_eq_true rfl)
           rw [v7] at g7
           have v14 := hF 14 (by decide) (hD 14 (by kernel_rfl))
           replace v14 : ys 14 = .slice xO mO capO := v14
           have g14 := hG 14 52 rfl (Nat.le_of_ble_eq_true rfl)
           rw [v14] at g14
           go_wp2_with fail
           exact ⟨_, rfl, gRefl _ _, rfl⟩
         · intro ys done W aa hE hn hF hD hZ hG hO
           replace hE : w8.grownBy W none := hE
           have v15 := hF 15 (by decide) (hD 15 (by kernel_rfl))
           replace v15 : ys 15 = .agg #[.slice xF mF capF, .slice xO mO capO] := v15
           have g15 := hG 15 53 rfl (Nat.le_of_ble_eq_true rfl)
           rw [v15] at g15
           go_wp2_with fail
           exact ⟨_, rfl, World.grownBy_alloc _ _ _, ⟨_, rfl, hE.size, At.new _ _ _⟩⟩
        case hQ8 =>
         intro ys W hE hF _
         replace hE : w8.grownBy W none := hE
         have v0 : ys 0 = .slice yl j cl := hF 0 (by decide)
         obtain ⟨g1, e16, hg1, hA1⟩ : ∃ g1 : Nat, ys 16 = .slice (some ⟨g1, 0, none⟩) 1 1 ∧ w8.heap.size ≤ g1 ∧ At W g1 53 #[.slice xF mF capF, .slice xO mO capO] := hF 16 (by decide)
         simp only [List.take_succ_cons, List.take_zero, List.drop_succ_cons, List.drop_zero, Sched.fill, v0, e16]
         have hX9 := gAt hXs hE (by simp)
         have hZ9 := gAt hZs hE (by simp)
         have hr9 := hrw.kept hE (rowFree hrw (fun y e => by cases e))
         have hb9 := hbw.grown hE hbw.size (fun y e => by cases e)
         have hs9 : W3.heap.size ≤ W.heap.size := Nat.le_trans hsw2 hE.size
         clear hF v0 e16 hE hXs hZs hrw hbw hsw2
         go_simp
         go_wp2_with (at_builtin; refine wpList_append_own _ rfl _ _ 29 rfl (w.heap.size + 2) 53 iC (.agg #[.slice none 0 0, .slice none 0 0]) 2 48 (by kernel_rfl) hiC hC0 hCs hCb rfl (by decide) _ _ _ rfl hr9 ⟨g1, 0, none⟩ 1 1 [.slice xF mF capF, .slice xO mO capO] rfl rfl (World.news_of_block (cs := #[.slice xF mF capF, .slice xO mO capO]) (t := 53) (fr := (0, 0)) hA1) (by simp [Value.oneCell']) (by unfold maxLen; omega) (by omega) (by omega) ?_; intro v7 w10 hown7 hgrow7 hnil7)
         have hX10 := gAt hX9 hgrow7 (fun e => by have := (hr9.lt _ e.symm).1; omega)
         have hZ10 := gAt hZ9 hgrow7 (fun e => by have := (hr9.lt _ e.symm).1; omega)
         have hb10 := hb9.grown hgrow7 hb9.size (fun y e => by have := (hr9.lt _ e).1; omega)
         have hs10 : W3.heap.size ≤ w10.heap.size := Nat.le_trans hs9 hgrow7.size
         have hsn : flatC ((us.take j).map cutU) ++ [.slice xF mF capF, .slice xO mO capO] = flatC ((us.take (j + 1)).map cutU) := by
           rw [take_snoc hu'.out, List.map_append, List.map_singleton, flatC_snoc, hmF2.out, hmO2.out]
           rfl
         rw [hsn] at hown7
         clear hX9 hZ9 hr9 hb9 hgrow7 hnil7 hA1 hsn
         go_roundw
         case rel => exact LpCut.mk_ (j + 1) (by go_num) ha h9 hb10 hs10 hX10 hZ10 hown7
         case measure => simp [intOf]; omega
      · skip
        have htk : us.take j = us.take 9 := by rw [show j = 9 by omega]
        rw [htk] at hrw
        have hjl : j = ((us.take 9).map cutU).length := by rw [← htk]; simp; omega
        have hXsh := Lib.hid hXs
        have hZsh := Lib.hid hZs
        have hbwh := Lib.hid hbw
        have hbws : w.heap.size ≤ wr.heap.size := hbw.size
        have hrwh := Lib.hid hrw
        have hjlh := Lib.hid hjl
        have f1 := hXs.free 1
        have p0 := hXs.cell 0
        have p2 := hXs.cell 2
        have p3 := hXs.cell 3
        have p4 := hXs.cell 4
        have p5 := hXs.cell 5
        have p6 := hXs.cell 6
        simp at p0 p2 p3 p4 p5 p6
        have r0 := hZs.cell 0
        have r1 := hZs.cell 1
        have r2 := hZs.cell 2
        have r3 := hZs.cell 3
        have r4 := hZs.cell 4
        have r5 := hZs.cell 5
        have r6 := hZs.cell 6
        simp [zScene] at r0 r1 r2 r3 r4 r5 r6
        have rf := hZs.free
        clear hXs hZs hbw hrw hjl htk
        go_wp2_with fail
        have hP1 := put_grown wr w.heap.size 1 (.slice yl j cl)
        have hP := (((((((hZsh.out.far (b := w.heap.size) (by omega) 1 (.slice yl j cl)).put 0 (.slice xR mR cR)).put 1 (.slice yl j cl)).put 2 (.slice xL mL cL)).put 3 (.int .i64 cm)).put 4 (.int .i64 rv)).put 5 (.int .i64 sch)).put 6 (.slice xD s.draws cD)
        simp [zScene] at hP
        have hG : (wr.setCell ⟨w.heap.size, 1, none⟩ (.slice yl j cl)).grownBy _ (some (w.heap.size + 1)) := ((((((put_grown _ (w.heap.size + 1) 0 (.slice xR mR cR)).trans (put_grown _ (w.heap.size + 1) 1 (.slice yl j cl))).trans (put_grown _ (w.heap.size + 1) 2 (.slice xL mL cL))).trans (put_grown _ (w.heap.size + 1) 3 (.int .i64 cm))).trans (put_grown _ (w.heap.size + 1) 4 (.int .i64 rv))).trans (put_grown _ (w.heap.size + 1) 5 (.int .i64 sch))).trans (put_grown _ (w.heap.size + 1) 6 (.slice xD s.draws cD))
        have hbf := (hbwh.out.grown hP1 hbws (fun y e => by cases e; exact Nat.le_refl _)).grown hG (Nat.le_trans hbws hP1.size) (fun y e => by cases e; omega)
        have hrf := (hrwh.out.kept hP1 (rowNe hrwh.out (by omega)))
        replace hrf := hrf.kept hG (rowNe hrf (by omega))
        have hSX : SceneX w.heap.size (w.heap.size + 2) _ (.slice xR mR cR) (.slice yl j cl) (.slice xL mL cL) (.slice xD s.draws cD) ((us.take 9).map cutU) (cutS s) := cutX hSh.out hbf hmR2'.out hmL2'.out hjlh.out hrf ⟨_, _, rfl, hD1, hD2⟩
        obtain ⟨e1, e2, e3⟩ := hcmh.out
        subst e1 e2 e3
        exact bodyPost_ret (res_scene rfl rfl hP) rfl ⟨⟨_, _, _, _, _, cutS s, rfl, hSX.at_ hbf.size, hfairh.out, by simp [cutS]; omega, by simp [cutS]; omega⟩, hbf⟩
    · skip
      have htk : us.take j = us.take 9 := by rw [List.take_of_length_le (by omega), List.take_of_length_le (by omega)]
      rw [htk] at hrw
      have hjl : j = ((us.take 9).map cutU).length := by rw [← htk]; simp; omega
      have hXsh := Lib.hid hXs
      have hZsh := Lib.hid hZs
      have hbwh := Lib.hid hbw
      have hbws : w.heap.size ≤ wr.heap.size := hbw.size
      have hrwh := Lib.hid hrw
      have hjlh := Lib.hid hjl
      have f1 := hXs.free 1
      have p0 := hXs.cell 0
      have p2 := hXs.cell 2
      have p3 := hXs.cell 3
      have p4 := hXs.cell 4
      have p5 := hXs.cell 5
      have p6 := hXs.cell 6
      simp at p0 p2 p3 p4 p5 p6
      have r0 := hZs.cell 0
      have r1 := hZs.cell 1
      have r2 := hZs.cell 2
      have r3 := hZs.cell 3
      have r4 := hZs.cell 4
      have r5 := hZs.cell 5
      have r6 := hZs.cell 6
      simp [zScene] at r0 r1 r2 r3 r4 r5 r6
      have rf := hZs.free
      clear hXs hZs hbw hrw hjl htk
      go_wp2_with fail
      have hP1 := put_grown wr w.heap.size 1 (.slice yl j cl)
      have hP := (((((((hZsh.out.far (b := w.heap.size) (by omega) 1 (.slice yl j cl)).put 0 (.slice xR mR cR)).put 1 (.slice yl j cl)).put 2 (.slice xL mL cL)).put 3 (.int .i64 cm)).put 4 (.int .i64 rv)).put 5 (.int .i64 sch)).put 6 (.slice xD s.draws cD)
      simp [zScene] at hP
      have hG : (wr.setCell ⟨w.heap.size, 1, none⟩ (.slice yl j cl)).grownBy _ (some (w.heap.size + 1)) := ((((((put_grown _ (w.heap.size + 1) 0 (.slice xR mR cR)).trans (put_grown _ (w.heap.size + 1) 1 (.slice yl j cl))).trans (put_grown _ (w.heap.size + 1) 2 (.slice xL mL cL))).trans (put_grown _ (w.heap.size + 1) 3 (.int .i64 cm))).trans (put_grown _ (w.heap.size + 1) 4 (.int .i64 rv))).trans (put_grown _ (w.heap.size + 1) 5 (.int .i64 sch))).trans (put_grown _ (w.heap.size + 1) 6 (.slice xD s.draws cD))
      have hbf := (hbwh.out.grown hP1 hbws (fun y e => by cases e; exact Nat.le_refl _)).grown hG (Nat.le_trans hbws hP1.size) (fun y e => by cases e; omega)
      have hrf := (hrwh.out.kept hP1 (rowNe hrwh.out (by omega)))
      replace hrf := hrf.kept hG (rowNe hrf (by omega))
      have hSX : SceneX w.heap.size (w.heap.size + 2) _ (.slice xR mR cR) (.slice yl j cl) (.slice xL mL cL) (.slice xD s.draws cD) ((us.take 9).map cutU) (cutS s) := cutX hSh.out hbf hmR2'.out hmL2'.out hjlh.out hrf ⟨_, _, rfl, hD1, hD2⟩
      obtain ⟨e1, e2, e3⟩ := hcmh.out
      subst e1 e2 e3
      exact bodyPost_ret (res_scene rfl rfl hP) rfl ⟨⟨_, _, _, _, _, cutS s, rfl, hSX.at_ hbf.size, hfairh.out, by simp [cutS]; omega, by simp [cutS]; omega⟩, hbf⟩
end Go.Proofs.YtlkijbakfoabaaaDoor.Scene

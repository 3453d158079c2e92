/-
  SceneTurned returns true, of every draft and turn.
-/
import Derived.Test.YtlkijbakfoabaaaDoorDraftScene
import Derived.Test.YtlkijbakfoabaaaDoorTurnMath
import Derived.Test.YtlkijbakfoabaaaDoorSceneTold
import Derived.Test.YtlkijbakfoabaaaDoorSceneWorks2
import Derived.Test.YtlkijbakfoabaaaDoorSceneOwners
namespace Go.Proofs.YtlkijbakfoabaaaDoor.Scene
open Go.RowKit Go.Sort Go.Proofs.YtlkijbakfoabaaaDoor.Mem
set_option linter.unusedVariables false

def LpF (wo : World) (X : Nat) (F O : Value) (b : Bool) (l : List Vh) (v : Value) (ws : World) : Prop :=
  ∃ (m : Nat) (vA : Value), v = .int .i64 m ∧ m ≤ l.length ∧ Below wo.heap.size wo ws ∧ At ws X 53 #[F, O] ∧ At ws (X + 1) 53 #[vA, .slice none 0 0] ∧ ws.ownsRow (X + 2) 57 5 vA m (flatV ((rvl b l).take m))
def LpO (wo : World) (X : Nat) (F O vF : Value) (lf : List Vh) (b : Bool) (l : List Int) (v : Value) (ws : World) : Prop :=
  ∃ (m : Nat) (vA : Value), v = .int .i64 m ∧ m ≤ l.length ∧ Below wo.heap.size wo ws ∧ At ws X 53 #[F, O] ∧ At ws (X + 1) 53 #[vF, vA] ∧ ws.ownsRow (X + 2) 57 5 vF lf.length (flatV lf) ∧ ws.ownsRow (X + 2) 3 1 vA m (flatI ((rvl b l).take m))
theorem LpF.mk_ {wo : World} {X : Nat} {F O : Value} {b : Bool} {l : List Vh} {v : Value} {ws : World} (m : Nat) (vA : Value) (h : v = .int .i64 m) (h1 : m ≤ l.length) (h2 : Below wo.heap.size wo ws) (h3 : At ws X 53 #[F, O]) (h4 : At ws (X + 1) 53 #[vA, .slice none 0 0]) (h5 : ws.ownsRow (X + 2) 57 5 vA m (flatV ((rvl b l).take m))) : LpF wo X F O b l v ws := ⟨m, vA, h, h1, h2, h3, h4, h5⟩
theorem LpO.mk_ {wo : World} {X : Nat} {F O vF : Value} {lf : List Vh} {b : Bool} {l : List Int} {v : Value} {ws : World} (m : Nat) (vA : Value) (h : v = .int .i64 m) (h1 : m ≤ l.length) (h2 : Below wo.heap.size wo ws) (h3 : At ws X 53 #[F, O]) (h4 : At ws (X + 1) 53 #[vF, vA]) (h5 : ws.ownsRow (X + 2) 57 5 vF lf.length (flatV lf)) (h6 : ws.ownsRow (X + 2) 3 1 vA m (flatI ((rvl b l).take m))) : LpO wo X F O vF lf b l v ws := ⟨m, vA, h, h1, h2, h3, h4, h5, h6⟩
def LpC (w5 : World) (n : Nat) (cs : List Cr) (l v : Value) (ws : World) : Prop :=
  ∃ (j : Nat) (us2 : List (Value × Value)), v = .int .i64 j ∧ j ≤ n ∧ (us2.length ≤ j ∧ j ≤ us2.length) ∧ Below w5.heap.size w5 ws ∧ CLay ws w5.heap.size l us2 (cs.take j)
theorem LpC.mk_ {w5 : World} {n : Nat} {cs : List Cr} {l v : Value} {ws : World} (j : Nat) (us2 : List (Value × Value)) (h : v = .int .i64 j) (h1 : j ≤ n) (h2 : us2.length ≤ j ∧ j ≤ us2.length) (h3 : Below w5.heap.size w5 ws) (h4 : CLay ws w5.heap.size l us2 (cs.take j)) : LpC w5 n cs l v ws := ⟨j, us2, h, h1, h2, h3, h4⟩
def LpL (wo : World) (Y : Nat) (vR vl vD : Value) (cm rv sch : Int) (b : Bool) (l : List Lt) (v : Value) (ws : World) : Prop :=
  ∃ (m : Nat) (vA : Value), v = .int .i64 m ∧ m ≤ l.length ∧ Below wo.heap.size wo ws ∧ At ws Y 33 #[vR, vl, vA, .int .i64 cm, .int .i64 rv, .int .i64 sch, vD] ∧ ws.ownsRow (Y + 1) 59 2 vA m (flatL ((rvl b l).take m))
theorem LpL.mk_ {wo : World} {Y : Nat} {vR vl vD : Value} {cm rv sch : Int} {b : Bool} {l : List Lt} {v : Value} {ws : World} (m : Nat) (vA : Value) (h : v = .int .i64 m) (h1 : m ≤ l.length) (h2 : Below wo.heap.size wo ws) (h4 : At ws Y 33 #[vR, vl, vA, .int .i64 cm, .int .i64 rv, .int .i64 sch, vD]) (h6 : ws.ownsRow (Y + 1) 59 2 vA m (flatL ((rvl b l).take m))) : LpL wo Y vR vl vD cm rv sch b l v ws := ⟨m, vA, h, h1, h2, h4, h6⟩
theorem below_alloc1D (w : World) (o : Obj) : Below w.heap.size w (w.alloc o) := (Below.refl _ _).alloc (Nat.le_refl _) _
theorem VCp.out {pA vA pB vB kv pe av : Value} {N : Nat} {t : TypeId} {cs : Array Value} {y : Value} {W : World} (h : VCp pA vA pB vB kv pe av N t cs 7 y W) : ∃ g1 : Nat, y = .slice (some ⟨g1, 0, none⟩) 1 1 ∧ N ≤ g1 ∧ At W g1 t cs := h

set_option maxRecDepth 100000 in
set_option maxHeartbeats 4000000 in
theorem turned_any (w : World) (hg : Hd w) (sv : Value) (bs : List Int) (a b c k : Int) (hrow : RowB w.heap.size w sv 1 (bs.map byV)) (hbyte : ∀ x ∈ bs, 0 ≤ x ∧ x < 256) (ha : 0 ≤ a ∧ a < 256) (hb : 0 ≤ b ∧ b < 256) (hc : 0 ≤ c ∧ c < 256) (b0 b1 b2 : Bool) :
    Calls Tryd.prog 4 #[.agg #[sv, .int .u8 a, .int .u8 b, .int .u8 c, .int .i64 k], .agg #[.bool b0, .bool b1, .bool b2]] w fun e w' => e = .returned (.bool true) ∧ Below w.heap.size w w' := by
  obtain ⟨xB, capB, rfl, _, _, _⟩ := id hrow
  simp only [List.length_map] at hrow ⊢
  obtain ⟨W1, hW1⟩ : ∃ W1, (w.alloc (.cells #[.slice xB bs.length capB, .int .u8 a, .int .u8 b, .int .u8 c, .int .i64 k] 25)).alloc (.cells #[.bool b0, .bool b1, .bool b2] 50) = W1 := ⟨_, rfl⟩
  have hb1 : Below w.heap.size w W1 := by rw [← hW1]; exact ((Below.refl _ _).alloc (Nat.le_refl _) _).alloc (by simp) _
  have hD1 : DraftAt W1 w.heap.size (.slice xB bs.length capB) bs a b c k := ⟨by rw [← hW1]; exact (At.new _ _ _).alloc _, hrow.keep hb1 (Nat.le_refl _), hbyte⟩
  have hA1 : At W1 (w.heap.size + 1) 50 #[.bool b0, .bool b1, .bool b2] := by rw [← hW1]; exact At.new_ _ _ _ (by simp)
  have hg1 := hg.keep hb1 hg.pos
  have hgp := hg.pos
  obtain ⟨n, hn⟩ : ∃ n, n = w.heap.size := ⟨_, rfl⟩
  rw [← hn] at hD1 hA1 hb1 hgp
  have hnw : n ≤ w.heap.size ∧ w.heap.size ≤ n := by omega
  have hB' := Lib.hid hb1
  have hD' := Lib.hid hD1
  have hG' := Lib.hid hg1
  clear hrow hbyte hg hb1 hD1 hg1
  go_enter Tryd.func4, Tryd.ntmps4
  go_wp2_with fail
  rw [← hn]
  clear hn hW1
  refine (works_any _ hG'.out).mono ?_
  rintro e w2 ⟨rfl, hb2⟩
  have hD2 : DraftAt w2 n (.slice xB bs.length capB) bs a b c k := hD'.out.grown (Below.grow hb2) (fun x e => by cases e)
  have hA2 := hA1.keep hb2 hA1.inside
  have hB2 := hB'.out.trans (hb2.mono (Nat.le_trans hnw.1 hB'.out.size))
  have hpos : n < w2.heap.size := hD2.box.inside
  clear hb2 hA1 hB' hD' hG'
  go_wp2_with fail
  refine (draft_any _ n (.slice xB bs.length capB) bs a b c k hD2 ha hb hc).mono ?_
  rintro e w3 ⟨vR, vC, vL, vD, us, s, k', rfl, hS, _, hdr, _, hgr⟩
  have hA3 := gAt hA2 hgr (by simp)
  have hB3 := hB2.grown hgr (Nat.le_trans hnw.1 hB2.size) (fun x e => by cases e; exact Nat.le_refl _)
  obtain ⟨xR, cR, rfl, _, _, _⟩ := id hS.reqs
  obtain ⟨xC, cC, rfl, _, _, _⟩ := id hS.cars.row
  obtain ⟨xL, cL, rfl, _, _, _⟩ := id hS.lots
  obtain ⟨xD, cD, rfl, _, _⟩ := id hS.draws
  simp only [List.length_map] at hS ⊢
  clear hD2 hA2 hB2 hgr hpos ha hb hc
  obtain ⟨q, hq⟩ : ∃ q, q = w3.heap.size := ⟨_, rfl⟩
  go_upto_region 4 with fail
  rw [← hq]
  obtain ⟨w4, hw4⟩ : ∃ w4, w3.alloc (.cells #[.slice xR s.reqs.length cR, .slice xC us.length cC, .slice xL s.lots.length cL, .int .i64 s.cm, .int .i64 s.rv, .int .i64 s.sch, .slice xD s.draws cD] 33) = w4 := ⟨_, rfl⟩
  have hb4 : Below w3.heap.size w3 w4 := by rw [← hw4]; exact below_alloc1D _ _
  have hX4 : At w4 q 33 #[.slice xR s.reqs.length cR, .slice xC us.length cC, .slice xL s.lots.length cL, .int .i64 s.cm, .int .i64 s.rv, .int .i64 s.sch, .slice xD s.draws cD] := by rw [← hw4]; exact At.new_ _ _ _ hq
  rw [hw4]
  have hS4 := (hS.keep hb4 (Nat.le_refl _)).more hb4.size
  have hA4 := hA3.keep hb4 hA3.inside
  have hB4 := hB3.trans (hb4.mono (Nat.le_trans hnw.1 hB3.size))
  clear hw4 hq hb4 hS hA3 hB3
  have hfair := drawn_fair hdr
  have p0 := hX4.cell 0
  have p1 := hX4.cell 1
  have p2 := hX4.cell 2
  have p3 := hX4.cell 3
  have p4 := hX4.cell 4
  have p5 := hX4.cell 5
  have p6 := hX4.cell 6
  simp at p0 p1 p2 p3 p4 p5 p6
  go_wp2_with fail
  refine (Owners_any s hfair _ _ _ _ us _ _ _ (by have := hdr.num; omega) _ hS4).mono ?_
  rintro e w5 ⟨⟨uo, rfl, huo⟩, hb5⟩
  have hS5 := (hS4.keep hb5 (Nat.le_refl _)).more hb5.size
  have hX5 := hX4.keep hb5 hX4.inside
  have hA5 := hA4.keep hb5 hA4.inside
  have hB5 := hB4.trans (hb5.mono (Nat.le_trans hnw.1 hB4.size))
  clear p0 p1 p2 p3 p4 p5 p6 hS4 hX4 hA4 hB4 hb5
  have hus := hS5.cars.len
  have hc8 := hdr.cnum
  have hl16 := hdr.lnum
  have hS' := Lib.hid hS5
  have hdr' := Lib.hid hdr
  have hfair' := Lib.hid hfair
  have huo' := Lib.hid huo
  have hus8 : us.length ≤ s.cars.length ∧ s.cars.length ≤ us.length := by omega
  clear hS5 hdr hfair huo hus
  obtain ⟨iC, hiC, hC0, hCs, hCb⟩ := info_parts info_crD
  obtain ⟨iV, hiV, hV0, hVs, hVb⟩ := info_parts info_vhD
  obtain ⟨iI, hiI, hI0, hIs, hIb⟩ := info_parts info_inD
  obtain ⟨iL, hiL, hLL0, hLs, hLb⟩ := info_parts info_ltD
  have hqi := hX5.inside
  have hni := hA5.inside
  go_wp2_with fail
  go_loopw [7, 8] (fun l v wr => LpC w5 us.length (s.cars.map (turnC b0 b1)) l v wr) (fun _ v _ => us.length - (intOf v).toNat)
  case atStart => exact LpC.mk_ 0 [] rfl (Nat.zero_le _) (by simp) (Below.refl _ _) (CLay.nil _ _)
  case round =>
    obtain ⟨j, us2, rfl, hj, hj2, hb6, hCl⟩ := hrel
    have hX6 := hX5.keep hb6 hqi
    have hA6 := hA5.keep hb6 hni
    have p1 := hX6.cell 1
    simp at p1
    by_cases hlt : j < us.length
    · obtain ⟨x, hx⟩ : ∃ x, s.cars[j]? = some x := ⟨_, List.getElem?_eq_getElem (by omega)⟩
      have hS6 := hS'.out.keep hb6 (Nat.le_refl _)
      obtain ⟨xF, capF, xO, capO, hu, hF1, hF2, hO1, hO2, hrow⟩ := hS6.cars.get hx
      have hcar := hS6.cars.car j _ x hu hx
      have hfl4 : x.fleet.length ≤ 4 := (hdr'.out.veh x (List.mem_of_getElem? hx)).1.2
      have how4 : x.own.length ≤ 64 := by have h1 := own_le hx; rw [hdr'.out.cnt] at h1; exact Nat.le_trans h1 hdr'.out.num
      obtain ⟨gC, oC, rfl, hgC, hcC⟩ := RowB.row hS6.cars.row hrow
      have c0 := hcC 0 _ rfl
      have c1 := hcC 1 _ rfl
      simp at c0 c1
      clear hcC hrow
      go_upto_region 10 with fail
      obtain ⟨X, hX⟩ : ∃ X, X = wr.heap.size := ⟨_, rfl⟩
      obtain ⟨w7, hw7⟩ : ∃ w7, (wr.alloc (.cells #[.slice xF x.fleet.length capF, .slice xO x.own.length capO] 53)).alloc (.cells #[.slice none 0 0, .slice none 0 0] 53) = w7 := ⟨_, rfl⟩
      have hXa : At w7 X 53 #[.slice xF x.fleet.length capF, .slice xO x.own.length capO] := by rw [← hw7]; exact (At.new_ _ _ _ hX).alloc _
      have hYa : At w7 (X + 1) 53 #[.slice none 0 0, .slice none 0 0] := by rw [← hw7]; exact At.new_ _ _ _ (by simp [hX])
      have hb7 : Below wr.heap.size wr w7 := by rw [← hw7]; exact ((Below.refl _ _).alloc (Nat.le_refl _) _).alloc (by simp) _
      have hXw : X ≤ wr.heap.size ∧ wr.heap.size ≤ X := by omega
      rw [hw7, ← hX]
      obtain ⟨wo, hwo⟩ : ∃ wo, wo = wr := ⟨_, rfl⟩
      rw [← hwo] at hb7 hXw hb6 hCl hX6 hA6 hcar
      clear hwo hw7 hX c0 c1 p1 hS6
      have hqo := hX6.inside
      have hno := hA6.inside
      have hX6' := Lib.hid hX6
      have hCl' := Lib.hid hCl
      have hb6' := Lib.hid hb6
      clear hX6 hCl hb6
      have hwo5 : w5.heap.size ≤ wo.heap.size := hb6'.out.size
      have hwX : w5.heap.size ≤ X := Nat.le_trans hwo5 hXw.2
      go_wp2_with fail

      go_loopw [11] (fun v ws => LpF wo X (.slice xF x.fleet.length capF) (.slice xO x.own.length capO) b0 x.fleet v ws) (fun v _ => x.fleet.length - (intOf v).toNat)
      case atStart => exact LpF.mk_ 0 _ rfl (Nat.zero_le _) hb7 hXa hYa (World.ownsRow_nil _ _ _ _)
      case round =>
        obtain ⟨m, vA, rfl, hm, hbs, hXs, hYs, hrw⟩ := hrel
        have x0 := hXs.cell 0
        have a0 := (hA6.keep hbs hno).cell 0
        simp at x0 a0
        by_cases hlt2 : m < x.fleet.length
        · rcases Bool.eq_false_or_eq_true b0 with hbb | hbb
          · rw [hbb] at a0
            obtain ⟨kk, hkk⟩ : ∃ kk : Nat, (x.fleet.length : Int) - 1 - m = kk := ⟨((x.fleet.length : Int) - 1 - m).toNat, by omega⟩
            have hk2 : kk < x.fleet.length ∧ x.fleet.length - 1 - m = kk := by omega
            obtain ⟨hv, hhv⟩ : ∃ hv, x.fleet[kk]? = some hv := ⟨_, List.getElem?_eq_getElem hk2.1⟩
            have hnx : (rvl b0 x.fleet)[m]? = some hv := by rw [rvl_get _ _ hlt2, hbb]; simp only [if_true]; rw [hk2.2]; exact hhv
            obtain ⟨gE, oE, hxE, hgE, hcE⟩ := RowB.row hcar.fleet (j := kk) (r := vhV hv) (by rw [List.getElem?_map, hhv]; rfl)
            subst hxE
            have hmm : m ≤ x.fleet.length := Nat.le_of_lt hlt2
            clear hhv hbb
            go_upto_region 16 with fail
            refine Sched.wp_region_sched 8 (fun W W' => W.grownBy W' none) (VCp (.pointer (some ⟨X + 1, 0, none⟩)) (vA) (.pointer (some ⟨X, 0, none⟩)) (.slice (some ⟨gE, oE, none⟩) x.fleet.length capF) (.int .i64 (kk : Int)) (.pointer (some ⟨gE, oE + kk * 5, none⟩)) (.agg #[.int .i64 hv.hx, .int .i64 hv.hy, .int .i64 hv.cp, .int .i64 hv.st, .int .i64 hv.en]) wr.heap.size 57 #[.int .i64 hv.hx, .int .i64 hv.hy, .int .i64 hv.cp, .int .i64 hv.st, .int .i64 hv.en]) (fun _ _ _ => True) (by kernel_rfl) (by kernel_rfl) (by kernel_rfl) (fun h1 h2 => h1.trans h2) (fun h1 h2 => VCp.keep h1 h2) (gDrew _ _) (fun _ => trivial) (Sched.StepsA.steps (by kernel_rfl) ?hSf1) ?hQf1
            case hSf1 =>
             simp only [List.take_succ_cons, List.take_zero]
             refine ⟨?_, ?_, ?_, ?_, ?_, ?_, ?_, ?_, trivial⟩
             · intro ys done W aa hE hn hF hD hZ hG hO
               replace hE : wr.grownBy W none := hE
               have o1 := hO 10 (by kernel_rfl)
               replace o1 : aa.tmps[10]? = some (.pointer (some ⟨X + 1, 0, none⟩)) := o1
               go_wp2_with fail
               exact ⟨_, rfl, gRefl _ _, rfl⟩
             · intro ys done W aa hE hn hF hD hZ hG hO
               replace hE : wr.grownBy W none := hE
               have v0 := hF 0 (by decide) (hD 0 (by kernel_rfl))
               replace v0 : ys 0 = .pointer (some ⟨X + 1, 0, none⟩) := v0
               have g0 := hG 0 52 rfl (Nat.le_of_ble_eq_true rfl)
               rw [v0] at g0
               have p := (gAt hYs hE (by simp)).cell 0
               simp at p
               go_wp2_with fail
               exact ⟨_, rfl, gRefl _ _, rfl⟩
             · intro ys done W aa hE hn hF hD hZ hG hO
               replace hE : wr.grownBy W none := hE
               have o1 := hO 9 (by kernel_rfl)
               replace o1 : aa.tmps[9]? = some (.pointer (some ⟨X, 0, none⟩)) := o1
               go_wp2_with fail
               exact ⟨_, rfl, gRefl _ _, rfl⟩
             · intro ys done W aa hE hn hF hD hZ hG hO
               replace hE : wr.grownBy W none := hE
               have v2 := hF 2 (by decide) (hD 2 (by kernel_rfl))
               replace v2 : ys 2 = .pointer (some ⟨X, 0, none⟩) := v2
               have g2 := hG 2 54 rfl (Nat.le_of_ble_eq_true rfl)
               rw [v2] at g2
               have p := (gAt hXs hE (by simp)).cell 0
               simp at p
               go_wp2_with fail
               exact ⟨_, rfl, gRefl _ _, rfl⟩
             · intro ys done W aa hE hn hF hD hZ hG hO
               replace hE : wr.grownBy W none := hE
               have o1 := hO 12 (by kernel_rfl)
               replace o1 : aa.tmps[12]? = some (.int .i64 (kk : Int)) := o1
               go_wp2_with fail
               exact ⟨_, rfl, gRefl _ _, rfl⟩
             · intro ys done W aa hE hn hF hD hZ hG hO
               replace hE : wr.grownBy W none := hE
               have v3 := hF 3 (by decide) (hD 3 (by kernel_rfl))
               replace v3 : ys 3 = .slice (some ⟨gE, oE, none⟩) x.fleet.length capF := v3
               have g3 := hG 3 55 rfl (Nat.le_of_ble_eq_true rfl)
               rw [v3] at g3
               have v4 := hF 4 (by decide) (hD 4 (by kernel_rfl))
               replace v4 : ys 4 = .int .i64 (kk : Int) := v4
               have g4 := hG 4 56 rfl (Nat.le_of_ble_eq_true rfl)
               rw [v4] at g4
               go_wp2_with fail
               exact ⟨_, rfl, gRefl _ _, rfl⟩
             · intro ys done W aa hE hn hF hD hZ hG hO
               replace hE : wr.grownBy W none := hE
               have v5 := hF 5 (by decide) (hD 5 (by kernel_rfl))
               replace v5 : ys 5 = .pointer (some ⟨gE, oE + kk * 5, none⟩) := v5
               have g5 := hG 5 57 rfl (Nat.le_of_ble_eq_true rfl)
               rw [v5] at g5
               have hbW : Below wo.heap.size wo W := hbs.grown hE hbs.size (fun x e => by cases e)
               have e0 := (hbW.cell (p := ⟨gE, oE + kk * 5 + 0, none⟩) (Nat.lt_of_lt_of_le hgE hwo5)).trans (hcE 0 _ rfl)
               have e1 := (hbW.cell (p := ⟨gE, oE + kk * 5 + 1, none⟩) (Nat.lt_of_lt_of_le hgE hwo5)).trans (hcE 1 _ rfl)
               have e2 := (hbW.cell (p := ⟨gE, oE + kk * 5 + 2, none⟩) (Nat.lt_of_lt_of_le hgE hwo5)).trans (hcE 2 _ rfl)
               have e3 := (hbW.cell (p := ⟨gE, oE + kk * 5 + 3, none⟩) (Nat.lt_of_lt_of_le hgE hwo5)).trans (hcE 3 _ rfl)
               have e4 := (hbW.cell (p := ⟨gE, oE + kk * 5 + 4, none⟩) (Nat.lt_of_lt_of_le hgE hwo5)).trans (hcE 4 _ rfl)
               simp at e0 e1 e2 e3 e4
               go_wp2_with fail
               exact ⟨_, rfl, gRefl _ _, rfl⟩
             · intro ys done W aa hE hn hF hD hZ hG hO
               replace hE : wr.grownBy W none := hE
               have v6 := hF 6 (by decide) (hD 6 (by kernel_rfl))
               replace v6 : ys 6 = .agg #[.int .i64 hv.hx, .int .i64 hv.hy, .int .i64 hv.cp, .int .i64 hv.st, .int .i64 hv.en] := v6
               have g6 := hG 6 58 rfl (Nat.le_of_ble_eq_true rfl)
               rw [v6] at g6
               go_wp2_with fail
               exact ⟨_, rfl, World.grownBy_alloc _ _ _, ⟨_, rfl, hE.size, At.new _ _ _⟩⟩
            case hQf1 =>
             intro ys W hE hF _
             replace hE : wr.grownBy W none := hE
             have v1 : ys 1 = vA := hF 1 (by decide)
             obtain ⟨g1, e7, hg1, hA1⟩ := (show VCp _ _ _ _ _ _ _ _ _ _ 7 (ys 7) W from hF 7 (by decide)).out
             simp only [List.take_succ_cons, List.take_zero, List.drop_succ_cons, List.drop_zero, Sched.fill, v1, e7]
             clear hF v1 e7
             have hb9 := hbs.grown hE hbs.size (fun x e => by cases e)
             have hY9 := gAt hYs hE (by simp)
             have hX9 := gAt hXs hE (by simp)
             have hr9 := hrw.kept hE (rowFree hrw (fun x e => by cases e))
             have hYi := hY9.inside
             have hmb : m < 9000000000000 := by have := hfl4; omega
             clear hE hYs hXs hrw hbs
             go_simp
             go_wp2_with (at_builtin; refine wpList_append_own _ rfl _ _ 51 rfl (X + 2) 57 iV (.agg #[.int .i64 0, .int .i64 0, .int .i64 0, .int .i64 0, .int .i64 0]) 5 40 (by kernel_rfl) hiV hV0 hVs hVb rfl (by decide) _ _ _ rfl hr9 ⟨g1, 0, none⟩ 1 1 [.int .i64 hv.hx, .int .i64 hv.hy, .int .i64 hv.cp, .int .i64 hv.st, .int .i64 hv.en] rfl rfl (World.news_of_block (cs := #[.int .i64 hv.hx, .int .i64 hv.hy, .int .i64 hv.cp, .int .i64 hv.st, .int .i64 hv.en]) (t := 57) (fr := (0, 0)) hA1) (by simp [Value.oneCell']) (by unfold maxLen; omega) (by omega) (by omega) ?_; intro v7 w8 hown7 hgrow7 hnil7; have hbx7 := gAt hY9 hgrow7 (fun e => by have := (hr9.lt _ e.symm).1; omega); have q0 := hbx7.cell 0; simp at q0; have qf0 := hbx7.free 0; obtain ⟨g7, cap7, h7, hg7⟩ := rowOpen hown7; subst h7)
             have hb10 := (hb9.grown hgrow7 hb9.size (fun x e => by have := (hr9.lt _ e).1; omega)).grown (put_grown w8 (X + 1) 0 (.slice (some ⟨g7, 0, none⟩) (m + 1) cap7)) (by have := hb9.size; have := hgrow7.size; omega) (fun x e => by cases e; omega)
             have hX10 := (gAt hX9 hgrow7 (fun e => by have := (hr9.lt _ e.symm).1; omega)).far (show X ≠ X + 1 by omega) 0 (.slice (some ⟨g7, 0, none⟩) (m + 1) cap7)
             have hY10 := hbx7.put 0 (.slice (some ⟨g7, 0, none⟩) (m + 1) cap7)
             simp at hY10
             have hr10 := hown7.kept (put_grown w8 (X + 1) 0 (.slice (some ⟨g7, 0, none⟩) (m + 1) cap7)) (rowNe hown7 (by omega))
             rw [show flatV ((rvl b0 x.fleet).take m) ++ [.int .i64 hv.hx, .int .i64 hv.hy, .int .i64 hv.cp, .int .i64 hv.st, .int .i64 hv.en] = flatV ((rvl b0 x.fleet).take (m + 1)) by rw [take_snoc hnx, flatV_snoc]; rfl] at hr10
             clear hb9 hY9 hX9 hr9 hown7 hgrow7 hbx7 hnil7 q0 qf0 hA1 x0 a0
             go_roundw
             case rel => exact LpF.mk_ (m + 1) _ (by go_num) hlt2 hb10 hX10 hY10 hr10
             case measure => simp [intOf]; omega
          · rw [hbb] at a0
            have hk2 : m < x.fleet.length ∧ m = m := ⟨hlt2, rfl⟩
            obtain ⟨hv, hhv⟩ : ∃ hv, x.fleet[m]? = some hv := ⟨_, List.getElem?_eq_getElem hk2.1⟩
            have hnx : (rvl b0 x.fleet)[m]? = some hv := by rw [rvl_get _ _ hlt2, hbb]; simp only [Bool.false_eq_true, if_false]; exact hhv
            obtain ⟨gE, oE, hxE, hgE, hcE⟩ := RowB.row hcar.fleet (j := m) (r := vhV hv) (by rw [List.getElem?_map, hhv]; rfl)
            subst hxE
            have hmm : m ≤ x.fleet.length := Nat.le_of_lt hlt2
            clear hhv hbb
            go_upto_region 16 with fail
            refine Sched.wp_region_sched 8 (fun W W' => W.grownBy W' none) (VCp (.pointer (some ⟨X + 1, 0, none⟩)) (vA) (.pointer (some ⟨X, 0, none⟩)) (.slice (some ⟨gE, oE, none⟩) x.fleet.length capF) (.int .i64 (m : Int)) (.pointer (some ⟨gE, oE + m * 5, none⟩)) (.agg #[.int .i64 hv.hx, .int .i64 hv.hy, .int .i64 hv.cp, .int .i64 hv.st, .int .i64 hv.en]) wr.heap.size 57 #[.int .i64 hv.hx, .int .i64 hv.hy, .int .i64 hv.cp, .int .i64 hv.st, .int .i64 hv.en]) (fun _ _ _ => True) (by kernel_rfl) (by kernel_rfl) (by kernel_rfl) (fun h1 h2 => h1.trans h2) (fun h1 h2 => VCp.keep h1 h2) (gDrew _ _) (fun _ => trivial) (Sched.StepsA.steps (by kernel_rfl) ?hSf0) ?hQf0
            case hSf0 =>
             simp only [List.take_succ_cons, List.take_zero]
             refine ⟨?_, ?_, ?_, ?_, ?_, ?_, ?_, ?_, trivial⟩
             · intro ys done W aa hE hn hF hD hZ hG hO
               replace hE : wr.grownBy W none := hE
               have o1 := hO 10 (by kernel_rfl)
               replace o1 : aa.tmps[10]? = some (.pointer (some ⟨X + 1, 0, none⟩)) := o1
               go_wp2_with fail
               exact ⟨_, rfl, gRefl _ _, rfl⟩
             · intro ys done W aa hE hn hF hD hZ hG hO
               replace hE : wr.grownBy W none := hE
               have v0 := hF 0 (by decide) (hD 0 (by kernel_rfl))
               replace v0 : ys 0 = .pointer (some ⟨X + 1, 0, none⟩) := v0
               have g0 := hG 0 52 rfl (Nat.le_of_ble_eq_true rfl)
               rw [v0] at g0
               have p := (gAt hYs hE (by simp)).cell 0
               simp at p
               go_wp2_with fail
               exact ⟨_, rfl, gRefl _ _, rfl⟩
             · intro ys done W aa hE hn hF hD hZ hG hO
               replace hE : wr.grownBy W none := hE
               have o1 := hO 9 (by kernel_rfl)
               replace o1 : aa.tmps[9]? = some (.pointer (some ⟨X, 0, none⟩)) := o1
               go_wp2_with fail
               exact ⟨_, rfl, gRefl _ _, rfl⟩
             · intro ys done W aa hE hn hF hD hZ hG hO
               replace hE : wr.grownBy W none := hE
               have v2 := hF 2 (by decide) (hD 2 (by kernel_rfl))
               replace v2 : ys 2 = .pointer (some ⟨X, 0, none⟩) := v2
               have g2 := hG 2 54 rfl (Nat.le_of_ble_eq_true rfl)
               rw [v2] at g2
               have p := (gAt hXs hE (by simp)).cell 0
               simp at p
               go_wp2_with fail
               exact ⟨_, rfl, gRefl _ _, rfl⟩
             · intro ys done W aa hE hn hF hD hZ hG hO
               replace hE : wr.grownBy W none := hE
               have o1 := hO 12 (by kernel_rfl)
               replace o1 : aa.tmps[12]? = some (.int .i64 (m : Int)) := o1
               go_wp2_with fail
               exact ⟨_, rfl, gRefl _ _, rfl⟩
             · intro ys done W aa hE hn hF hD hZ hG hO
               replace hE : wr.grownBy W none := hE
               have v3 := hF 3 (by decide) (hD 3 (by kernel_rfl))
               replace v3 : ys 3 = .slice (some ⟨gE, oE, none⟩) x.fleet.length capF := v3
               have g3 := hG 3 55 rfl (Nat.le_of_ble_eq_true rfl)
               rw [v3] at g3
               have v4 := hF 4 (by decide) (hD 4 (by kernel_rfl))
               replace v4 : ys 4 = .int .i64 (m : Int) := v4
               have g4 := hG 4 56 rfl (Nat.le_of_ble_eq_true rfl)
               rw [v4] at g4
               go_wp2_with fail
               exact ⟨_, rfl, gRefl _ _, rfl⟩
             · intro ys done W aa hE hn hF hD hZ hG hO
               replace hE : wr.grownBy W none := hE
               have v5 := hF 5 (by decide) (hD 5 (by kernel_rfl))
               replace v5 : ys 5 = .pointer (some ⟨gE, oE + m * 5, none⟩) := v5
               have g5 := hG 5 57 rfl (Nat.le_of_ble_eq_true rfl)
               rw [v5] at g5
               have hbW : Below wo.heap.size wo W := hbs.grown hE hbs.size (fun x e => by cases e)
               have e0 := (hbW.cell (p := ⟨gE, oE + m * 5 + 0, none⟩) (Nat.lt_of_lt_of_le hgE hwo5)).trans (hcE 0 _ rfl)
               have e1 := (hbW.cell (p := ⟨gE, oE + m * 5 + 1, none⟩) (Nat.lt_of_lt_of_le hgE hwo5)).trans (hcE 1 _ rfl)
               have e2 := (hbW.cell (p := ⟨gE, oE + m * 5 + 2, none⟩) (Nat.lt_of_lt_of_le hgE hwo5)).trans (hcE 2 _ rfl)
               have e3 := (hbW.cell (p := ⟨gE, oE + m * 5 + 3, none⟩) (Nat.lt_of_lt_of_le hgE hwo5)).trans (hcE 3 _ rfl)
               have e4 := (hbW.cell (p := ⟨gE, oE + m * 5 + 4, none⟩) (Nat.lt_of_lt_of_le hgE hwo5)).trans (hcE 4 _ rfl)
               simp at e0 e1 e2 e3 e4
               go_wp2_with fail
               exact ⟨_, rfl, gRefl _ _, rfl⟩
             · intro ys done W aa hE hn hF hD hZ hG hO
               replace hE : wr.grownBy W none := hE
               have v6 := hF 6 (by decide) (hD 6 (by kernel_rfl))
               replace v6 : ys 6 = .agg #[.int .i64 hv.hx, .int .i64 hv.hy, .int .i64 hv.cp, .int .i64 hv.st, .int .i64 hv.en] := v6
               have g6 := hG 6 58 rfl (Nat.le_of_ble_eq_true rfl)
               rw [v6] at g6
               go_wp2_with fail
               exact ⟨_, rfl, World.grownBy_alloc _ _ _, ⟨_, rfl, hE.size, At.new _ _ _⟩⟩
            case hQf0 =>
             intro ys W hE hF _
             replace hE : wr.grownBy W none := hE
             have v1 : ys 1 = vA := hF 1 (by decide)
             obtain ⟨g1, e7, hg1, hA1⟩ := (show VCp _ _ _ _ _ _ _ _ _ _ 7 (ys 7) W from hF 7 (by decide)).out
             simp only [List.take_succ_cons, List.take_zero, List.drop_succ_cons, List.drop_zero, Sched.fill, v1, e7]
             clear hF v1 e7
             have hb9 := hbs.grown hE hbs.size (fun x e => by cases e)
             have hY9 := gAt hYs hE (by simp)
             have hX9 := gAt hXs hE (by simp)
             have hr9 := hrw.kept hE (rowFree hrw (fun x e => by cases e))
             have hYi := hY9.inside
             have hmb : m < 9000000000000 := by have := hfl4; omega
             clear hE hYs hXs hrw hbs
             go_simp
             go_wp2_with (at_builtin; refine wpList_append_own _ rfl _ _ 51 rfl (X + 2) 57 iV (.agg #[.int .i64 0, .int .i64 0, .int .i64 0, .int .i64 0, .int .i64 0]) 5 40 (by kernel_rfl) hiV hV0 hVs hVb rfl (by decide) _ _ _ rfl hr9 ⟨g1, 0, none⟩ 1 1 [.int .i64 hv.hx, .int .i64 hv.hy, .int .i64 hv.cp, .int .i64 hv.st, .int .i64 hv.en] rfl rfl (World.news_of_block (cs := #[.int .i64 hv.hx, .int .i64 hv.hy, .int .i64 hv.cp, .int .i64 hv.st, .int .i64 hv.en]) (t := 57) (fr := (0, 0)) hA1) (by simp [Value.oneCell']) (by unfold maxLen; omega) (by omega) (by omega) ?_; intro v7 w8 hown7 hgrow7 hnil7; have hbx7 := gAt hY9 hgrow7 (fun e => by have := (hr9.lt _ e.symm).1; omega); have q0 := hbx7.cell 0; simp at q0; have qf0 := hbx7.free 0; obtain ⟨g7, cap7, h7, hg7⟩ := rowOpen hown7; subst h7)
             have hb10 := (hb9.grown hgrow7 hb9.size (fun x e => by have := (hr9.lt _ e).1; omega)).grown (put_grown w8 (X + 1) 0 (.slice (some ⟨g7, 0, none⟩) (m + 1) cap7)) (by have := hb9.size; have := hgrow7.size; omega) (fun x e => by cases e; omega)
             have hX10 := (gAt hX9 hgrow7 (fun e => by have := (hr9.lt _ e.symm).1; omega)).far (show X ≠ X + 1 by omega) 0 (.slice (some ⟨g7, 0, none⟩) (m + 1) cap7)
             have hY10 := hbx7.put 0 (.slice (some ⟨g7, 0, none⟩) (m + 1) cap7)
             simp at hY10
             have hr10 := hown7.kept (put_grown w8 (X + 1) 0 (.slice (some ⟨g7, 0, none⟩) (m + 1) cap7)) (rowNe hown7 (by omega))
             rw [show flatV ((rvl b0 x.fleet).take m) ++ [.int .i64 hv.hx, .int .i64 hv.hy, .int .i64 hv.cp, .int .i64 hv.st, .int .i64 hv.en] = flatV ((rvl b0 x.fleet).take (m + 1)) by rw [take_snoc hnx, flatV_snoc]; rfl] at hr10
             clear hb9 hY9 hX9 hr9 hown7 hgrow7 hbx7 hnil7 q0 qf0 hA1 x0 a0
             go_roundw
             case rel => exact LpF.mk_ (m + 1) _ (by go_num) hlt2 hb10 hX10 hY10 hr10
             case measure => simp [intOf]; omega
        · obtain rfl : m = x.fleet.length := by omega
          have hrF : wr.ownsRow (X + 2) 57 5 vA (rvl b0 x.fleet).length (flatV (rvl b0 x.fleet)) := by
            rw [show (rvl b0 x.fleet).take x.fleet.length = rvl b0 x.fleet from List.take_of_length_le (by rw [rvl_len]; exact Nat.le_refl _)] at hrw
            rw [rvl_len]; exact hrw
          obtain ⟨vF, hvF⟩ : ∃ vF, vF = vA := ⟨_, rfl⟩
          rw [← hvF] at hrF hYs
          clear hrw a0 hvF
          go_wp2_with fail
          clear x0
          go_loopw [13] (fun v ws => LpO wo X (.slice xF x.fleet.length capF) (.slice xO x.own.length capO) vF (rvl b0 x.fleet) b1 x.own v ws) (fun v _ => x.own.length - (intOf v).toNat)
          case atStart => exact LpO.mk_ 0 _ rfl (Nat.zero_le _) hbs hXs hYs hrF (World.ownsRow_nil _ _ _ _)
          case round =>
            obtain ⟨m, vA, rfl, hm, hbs, hXs, hYs, hrF, hrw⟩ := hrel
            have x0 := hXs.cell 1
            have a0 := (hA6.keep hbs hno).cell 1
            simp at x0 a0
            by_cases hlt2 : m < x.own.length
            · rcases Bool.eq_false_or_eq_true b1 with hbb | hbb
              · rw [hbb] at a0
                obtain ⟨kk, hkk⟩ : ∃ kk : Nat, (x.own.length : Int) - 1 - m = kk := ⟨((x.own.length : Int) - 1 - m).toNat, by omega⟩
                have hk2 : kk < x.own.length ∧ x.own.length - 1 - m = kk := by omega
                obtain ⟨hv, hhv⟩ : ∃ hv, x.own[kk]? = some hv := ⟨_, List.getElem?_eq_getElem hk2.1⟩
                have hnx : (rvl b1 x.own)[m]? = some hv := by rw [rvl_get _ _ hlt2, hbb]; simp only [if_true]; rw [hk2.2]; exact hhv
                obtain ⟨gE, oE, hxE, hgE, hcE⟩ := RowB.row hcar.own (j := kk) (r := inV hv) (by rw [List.getElem?_map, hhv]; rfl)
                subst hxE
                have hmm : m ≤ x.own.length := Nat.le_of_lt hlt2
                clear hhv hbb
                go_upto_region 23 with fail
                refine Sched.wp_region_sched 8 (fun W W' => W.grownBy W' none) (VCp (.pointer (some ⟨X + 1, 1, none⟩)) (vA) (.pointer (some ⟨X, 1, none⟩)) (.slice (some ⟨gE, oE, none⟩) x.own.length capO) (.int .i64 (kk : Int)) (.pointer (some ⟨gE, oE + kk, none⟩)) (.int .i64 hv) wr.heap.size 3 #[.int .i64 hv]) (fun _ _ _ => True) (by kernel_rfl) (by kernel_rfl) (by kernel_rfl) (fun h1 h2 => h1.trans h2) (fun h1 h2 => VCp.keep h1 h2) (gDrew _ _) (fun _ => trivial) (Sched.StepsA.steps (by kernel_rfl) ?hSo1) ?hQo1
                case hSo1 =>
                 simp only [List.take_succ_cons, List.take_zero]
                 refine ⟨?_, ?_, ?_, ?_, ?_, ?_, ?_, ?_, trivial⟩
                 · intro ys done W aa hE hn hF hD hZ hG hO
                   replace hE : wr.grownBy W none := hE
                   have o1 := hO 10 (by kernel_rfl)
                   replace o1 : aa.tmps[10]? = some (.pointer (some ⟨X + 1, 0, none⟩)) := o1
                   go_wp2_with fail
                   exact ⟨_, rfl, gRefl _ _, rfl⟩
                 · intro ys done W aa hE hn hF hD hZ hG hO
                   replace hE : wr.grownBy W none := hE
                   have v0 := hF 0 (by decide) (hD 0 (by kernel_rfl))
                   replace v0 : ys 0 = .pointer (some ⟨X + 1, 1, none⟩) := v0
                   have g0 := hG 0 78 rfl (Nat.le_of_ble_eq_true rfl)
                   rw [v0] at g0
                   have p := (gAt hYs hE (by simp)).cell 1
                   simp at p
                   go_wp2_with fail
                   exact ⟨_, rfl, gRefl _ _, rfl⟩
                 · intro ys done W aa hE hn hF hD hZ hG hO
                   replace hE : wr.grownBy W none := hE
                   have o1 := hO 9 (by kernel_rfl)
                   replace o1 : aa.tmps[9]? = some (.pointer (some ⟨X, 0, none⟩)) := o1
                   go_wp2_with fail
                   exact ⟨_, rfl, gRefl _ _, rfl⟩
                 · intro ys done W aa hE hn hF hD hZ hG hO
                   replace hE : wr.grownBy W none := hE
                   have v2 := hF 2 (by decide) (hD 2 (by kernel_rfl))
                   replace v2 : ys 2 = .pointer (some ⟨X, 1, none⟩) := v2
                   have g2 := hG 2 80 rfl (Nat.le_of_ble_eq_true rfl)
                   rw [v2] at g2
                   have p := (gAt hXs hE (by simp)).cell 1
                   simp at p
                   go_wp2_with fail
                   exact ⟨_, rfl, gRefl _ _, rfl⟩
                 · intro ys done W aa hE hn hF hD hZ hG hO
                   replace hE : wr.grownBy W none := hE
                   have o1 := hO 14 (by kernel_rfl)
                   replace o1 : aa.tmps[14]? = some (.int .i64 (kk : Int)) := o1
                   go_wp2_with fail
                   exact ⟨_, rfl, gRefl _ _, rfl⟩
                 · intro ys done W aa hE hn hF hD hZ hG hO
                   replace hE : wr.grownBy W none := hE
                   have v3 := hF 3 (by decide) (hD 3 (by kernel_rfl))
                   replace v3 : ys 3 = .slice (some ⟨gE, oE, none⟩) x.own.length capO := v3
                   have g3 := hG 3 81 rfl (Nat.le_of_ble_eq_true rfl)
                   rw [v3] at g3
                   have v4 := hF 4 (by decide) (hD 4 (by kernel_rfl))
                   replace v4 : ys 4 = .int .i64 (kk : Int) := v4
                   have g4 := hG 4 82 rfl (Nat.le_of_ble_eq_true rfl)
                   rw [v4] at g4
                   go_wp2_with fail
                   exact ⟨_, rfl, gRefl _ _, rfl⟩
                 · intro ys done W aa hE hn hF hD hZ hG hO
                   replace hE : wr.grownBy W none := hE
                   have v5 := hF 5 (by decide) (hD 5 (by kernel_rfl))
                   replace v5 : ys 5 = .pointer (some ⟨gE, oE + kk, none⟩) := v5
                   have g5 := hG 5 83 rfl (Nat.le_of_ble_eq_true rfl)
                   rw [v5] at g5
                   have hbW : Below wo.heap.size wo W := hbs.grown hE hbs.size (fun x e => by cases e)
                   have e0 := (hbW.cell (p := ⟨gE, oE + kk * 1 + 0, none⟩) (Nat.lt_of_lt_of_le hgE hwo5)).trans (hcE 0 _ rfl)
                   simp at e0
                   go_wp2_with fail
                   exact ⟨_, rfl, gRefl _ _, rfl⟩
                 · intro ys done W aa hE hn hF hD hZ hG hO
                   replace hE : wr.grownBy W none := hE
                   have v6 := hF 6 (by decide) (hD 6 (by kernel_rfl))
                   replace v6 : ys 6 = .int .i64 hv := v6
                   have g6 := hG 6 84 rfl (Nat.le_of_ble_eq_true rfl)
                   rw [v6] at g6
                   go_wp2_with fail
                   exact ⟨_, rfl, World.grownBy_alloc _ _ _, ⟨_, rfl, hE.size, At.new _ _ _⟩⟩
                case hQo1 =>
                 intro ys W hE hF _
                 replace hE : wr.grownBy W none := hE
                 have v1 : ys 1 = vA := hF 1 (by decide)
                 obtain ⟨g1, e7, hg1, hA1⟩ := (show VCp _ _ _ _ _ _ _ _ _ _ 7 (ys 7) W from hF 7 (by decide)).out
                 simp only [List.take_succ_cons, List.take_zero, List.drop_succ_cons, List.drop_zero, Sched.fill, v1, e7]
                 clear hF v1 e7
                 have hb9 := hbs.grown hE hbs.size (fun x e => by cases e)
                 have hY9 := gAt hYs hE (by simp)
                 have hX9 := gAt hXs hE (by simp)
                 have hr9 := hrw.kept hE (rowFree hrw (fun x e => by cases e))
                 have hx9 := hrF.kept hE (rowFree hrF (fun x e => by cases e))
                 have hYi := hY9.inside
                 have hmb : m < 9000000000000 := by have := how4; omega
                 clear hE hYs hXs hrw hbs hrF
                 go_simp
                 go_wp2_with (at_builtin; refine wpList_append_own _ rfl _ _ 46 rfl (X + 2) 3 iI (.int .i64 0) 1 8 (by kernel_rfl) hiI hI0 hIs hIb rfl (by decide) _ _ _ rfl hr9 ⟨g1, 0, none⟩ 1 1 [.int .i64 hv] rfl rfl (World.news_of_block (cs := #[.int .i64 hv]) (t := 3) (fr := (0, 0)) hA1) (by simp [Value.oneCell']) (by unfold maxLen; omega) (by omega) (by omega) ?_; intro v7 w8 hown7 hgrow7 hnil7; have hbx7 := gAt hY9 hgrow7 (fun e => by have := (hr9.lt _ e.symm).1; omega); have q0 := hbx7.cell 1; simp at q0; have qf0 := hbx7.free 1; obtain ⟨g7, cap7, h7, hg7⟩ := rowOpen hown7; subst h7)
                 have hb10 := (hb9.grown hgrow7 hb9.size (fun x e => by have := (hr9.lt _ e).1; omega)).grown (put_grown w8 (X + 1) 1 (.slice (some ⟨g7, 0, none⟩) (m + 1) cap7)) (by have := hb9.size; have := hgrow7.size; omega) (fun x e => by cases e; omega)
                 have hX10 := (gAt hX9 hgrow7 (fun e => by have := (hr9.lt _ e.symm).1; omega)).far (show X ≠ X + 1 by omega) 1 (.slice (some ⟨g7, 0, none⟩) (m + 1) cap7)
                 have hY10 := hbx7.put 1 (.slice (some ⟨g7, 0, none⟩) (m + 1) cap7)
                 simp at hY10
                 have hx10 := hx9.kept hgrow7 (rowApart hx9 hr9 (by decide))
                 replace hx10 := hx10.kept (put_grown w8 (X + 1) 1 (.slice (some ⟨g7, 0, none⟩) (m + 1) cap7)) (rowNe hx10 (by omega))
                 have hr10 := hown7.kept (put_grown w8 (X + 1) 1 (.slice (some ⟨g7, 0, none⟩) (m + 1) cap7)) (rowNe hown7 (by omega))
                 rw [show flatI ((rvl b1 x.own).take m) ++ [.int .i64 hv] = flatI ((rvl b1 x.own).take (m + 1)) by rw [take_snoc hnx, flatI_snoc]; rfl] at hr10
                 clear hb9 hY9 hX9 hr9 hown7 hgrow7 hbx7 hnil7 q0 qf0 hA1 x0 a0 hx9
                 go_roundw
                 case rel => exact LpO.mk_ (m + 1) _ (by go_num) hlt2 hb10 hX10 hY10 hx10 hr10
                 case measure => simp [intOf]; omega
              · rw [hbb] at a0
                have hk2 : m < x.own.length ∧ m = m := ⟨hlt2, rfl⟩
                obtain ⟨hv, hhv⟩ : ∃ hv, x.own[m]? = some hv := ⟨_, List.getElem?_eq_getElem hk2.1⟩
                have hnx : (rvl b1 x.own)[m]? = some hv := by rw [rvl_get _ _ hlt2, hbb]; simp only [Bool.false_eq_true, if_false]; exact hhv
                obtain ⟨gE, oE, hxE, hgE, hcE⟩ := RowB.row hcar.own (j := m) (r := inV hv) (by rw [List.getElem?_map, hhv]; rfl)
                subst hxE
                have hmm : m ≤ x.own.length := Nat.le_of_lt hlt2
                clear hhv hbb
                go_upto_region 23 with fail
                refine Sched.wp_region_sched 8 (fun W W' => W.grownBy W' none) (VCp (.pointer (some ⟨X + 1, 1, none⟩)) (vA) (.pointer (some ⟨X, 1, none⟩)) (.slice (some ⟨gE, oE, none⟩) x.own.length capO) (.int .i64 (m : Int)) (.pointer (some ⟨gE, oE + m, none⟩)) (.int .i64 hv) wr.heap.size 3 #[.int .i64 hv]) (fun _ _ _ => True) (by kernel_rfl) (by kernel_rfl) (by kernel_rfl) (fun h1 h2 => h1.trans h2) (fun h1 h2 => VCp.keep h1 h2) (gDrew _ _) (fun _ => trivial) (Sched.StepsA.steps (by kernel_rfl) ?hSo0) ?hQo0
                case hSo0 =>
                 simp only [List.take_succ_cons, List.take_zero]
                 refine ⟨?_, ?_, ?_, ?_, ?_, ?_, ?_, ?_, trivial⟩
                 · intro ys done W aa hE hn hF hD hZ hG hO
                   replace hE : wr.grownBy W none := hE
                   have o1 := hO 10 (by kernel_rfl)
                   replace o1 : aa.tmps[10]? = some (.pointer (some ⟨X + 1, 0, none⟩)) := o1
                   go_wp2_with fail
                   exact ⟨_, rfl, gRefl _ _, rfl⟩
                 · intro ys done W aa hE hn hF hD hZ hG hO
                   replace hE : wr.grownBy W none := hE
                   have v0 := hF 0 (by decide) (hD 0 (by kernel_rfl))
                   replace v0 : ys 0 = .pointer (some ⟨X + 1, 1, none⟩) := v0
                   have g0 := hG 0 78 rfl (Nat.le_of_ble_eq_true rfl)
                   rw [v0] at g0
                   have p := (gAt hYs hE (by simp)).cell 1
                   simp at p
                   go_wp2_with fail
                   exact ⟨_, rfl, gRefl _ _, rfl⟩
                 · intro ys done W aa hE hn hF hD hZ hG hO
                   replace hE : wr.grownBy W none := hE
                   have o1 := hO 9 (by kernel_rfl)
                   replace o1 : aa.tmps[9]? = some (.pointer (some ⟨X, 0, none⟩)) := o1
                   go_wp2_with fail
                   exact ⟨_, rfl, gRefl _ _, rfl⟩
                 · intro ys done W aa hE hn hF hD hZ hG hO
                   replace hE : wr.grownBy W none := hE
                   have v2 := hF 2 (by decide) (hD 2 (by kernel_rfl))
                   replace v2 : ys 2 = .pointer (some ⟨X, 1, none⟩) := v2
                   have g2 := hG 2 80 rfl (Nat.le_of_ble_eq_true rfl)
                   rw [v2] at g2
                   have p := (gAt hXs hE (by simp)).cell 1
                   simp at p
                   go_wp2_with fail
                   exact ⟨_, rfl, gRefl _ _, rfl⟩
                 · intro ys done W aa hE hn hF hD hZ hG hO
                   replace hE : wr.grownBy W none := hE
                   have o1 := hO 14 (by kernel_rfl)
                   replace o1 : aa.tmps[14]? = some (.int .i64 (m : Int)) := o1
                   go_wp2_with fail
                   exact ⟨_, rfl, gRefl _ _, rfl⟩
                 · intro ys done W aa hE hn hF hD hZ hG hO
                   replace hE : wr.grownBy W none := hE
                   have v3 := hF 3 (by decide) (hD 3 (by kernel_rfl))
                   replace v3 : ys 3 = .slice (some ⟨gE, oE, none⟩) x.own.length capO := v3
                   have g3 := hG 3 81 rfl (Nat.le_of_ble_eq_true rfl)
                   rw [v3] at g3
                   have v4 := hF 4 (by decide) (hD 4 (by kernel_rfl))
                   replace v4 : ys 4 = .int .i64 (m : Int) := v4
                   have g4 := hG 4 82 rfl (Nat.le_of_ble_eq_true rfl)
                   rw [v4] at g4
                   go_wp2_with fail
                   exact ⟨_, rfl, gRefl _ _, rfl⟩
                 · intro ys done W aa hE hn hF hD hZ hG hO
                   replace hE : wr.grownBy W none := hE
                   have v5 := hF 5 (by decide) (hD 5 (by kernel_rfl))
                   replace v5 : ys 5 = .pointer (some ⟨gE, oE + m, none⟩) := v5
                   have g5 := hG 5 83 rfl (Nat.le_of_ble_eq_true rfl)
                   rw [v5] at g5
                   have hbW : Below wo.heap.size wo W := hbs.grown hE hbs.size (fun x e => by cases e)
                   have e0 := (hbW.cell (p := ⟨gE, oE + m * 1 + 0, none⟩) (Nat.lt_of_lt_of_le hgE hwo5)).trans (hcE 0 _ rfl)
                   simp at e0
                   go_wp2_with fail
                   exact ⟨_, rfl, gRefl _ _, rfl⟩
                 · intro ys done W aa hE hn hF hD hZ hG hO
                   replace hE : wr.grownBy W none := hE
                   have v6 := hF 6 (by decide) (hD 6 (by kernel_rfl))
                   replace v6 : ys 6 = .int .i64 hv := v6
                   have g6 := hG 6 84 rfl (Nat.le_of_ble_eq_true rfl)
                   rw [v6] at g6
                   go_wp2_with fail
                   exact ⟨_, rfl, World.grownBy_alloc _ _ _, ⟨_, rfl, hE.size, At.new _ _ _⟩⟩
                case hQo0 =>
                 intro ys W hE hF _
                 replace hE : wr.grownBy W none := hE
                 have v1 : ys 1 = vA := hF 1 (by decide)
                 obtain ⟨g1, e7, hg1, hA1⟩ := (show VCp _ _ _ _ _ _ _ _ _ _ 7 (ys 7) W from hF 7 (by decide)).out
                 simp only [List.take_succ_cons, List.take_zero, List.drop_succ_cons, List.drop_zero, Sched.fill, v1, e7]
                 clear hF v1 e7
                 have hb9 := hbs.grown hE hbs.size (fun x e => by cases e)
                 have hY9 := gAt hYs hE (by simp)
                 have hX9 := gAt hXs hE (by simp)
                 have hr9 := hrw.kept hE (rowFree hrw (fun x e => by cases e))
                 have hx9 := hrF.kept hE (rowFree hrF (fun x e => by cases e))
                 have hYi := hY9.inside
                 have hmb : m < 9000000000000 := by have := how4; omega
                 clear hE hYs hXs hrw hbs hrF
                 go_simp
                 go_wp2_with (at_builtin; refine wpList_append_own _ rfl _ _ 46 rfl (X + 2) 3 iI (.int .i64 0) 1 8 (by kernel_rfl) hiI hI0 hIs hIb rfl (by decide) _ _ _ rfl hr9 ⟨g1, 0, none⟩ 1 1 [.int .i64 hv] rfl rfl (World.news_of_block (cs := #[.int .i64 hv]) (t := 3) (fr := (0, 0)) hA1) (by simp [Value.oneCell']) (by unfold maxLen; omega) (by omega) (by omega) ?_; intro v7 w8 hown7 hgrow7 hnil7; have hbx7 := gAt hY9 hgrow7 (fun e => by have := (hr9.lt _ e.symm).1; omega); have q0 := hbx7.cell 1; simp at q0; have qf0 := hbx7.free 1; obtain ⟨g7, cap7, h7, hg7⟩ := rowOpen hown7; subst h7)
                 have hb10 := (hb9.grown hgrow7 hb9.size (fun x e => by have := (hr9.lt _ e).1; omega)).grown (put_grown w8 (X + 1) 1 (.slice (some ⟨g7, 0, none⟩) (m + 1) cap7)) (by have := hb9.size; have := hgrow7.size; omega) (fun x e => by cases e; omega)
                 have hX10 := (gAt hX9 hgrow7 (fun e => by have := (hr9.lt _ e.symm).1; omega)).far (show X ≠ X + 1 by omega) 1 (.slice (some ⟨g7, 0, none⟩) (m + 1) cap7)
                 have hY10 := hbx7.put 1 (.slice (some ⟨g7, 0, none⟩) (m + 1) cap7)
                 simp at hY10
                 have hx10 := hx9.kept hgrow7 (rowApart hx9 hr9 (by decide))
                 replace hx10 := hx10.kept (put_grown w8 (X + 1) 1 (.slice (some ⟨g7, 0, none⟩) (m + 1) cap7)) (rowNe hx10 (by omega))
                 have hr10 := hown7.kept (put_grown w8 (X + 1) 1 (.slice (some ⟨g7, 0, none⟩) (m + 1) cap7)) (rowNe hown7 (by omega))
                 rw [show flatI ((rvl b1 x.own).take m) ++ [.int .i64 hv] = flatI ((rvl b1 x.own).take (m + 1)) by rw [take_snoc hnx, flatI_snoc]; rfl] at hr10
                 clear hb9 hY9 hX9 hr9 hown7 hgrow7 hbx7 hnil7 q0 qf0 hA1 x0 a0 hx9
                 go_roundw
                 case rel => exact LpO.mk_ (m + 1) _ (by go_num) hlt2 hb10 hX10 hY10 hx10 hr10
                 case measure => simp [intOf]; omega
            · obtain rfl : m = x.own.length := by omega
              have hrO : wr.ownsRow (X + 2) 3 1 vA (rvl b1 x.own).length (flatI (rvl b1 x.own)) := by
                rw [show (rvl b1 x.own).take x.own.length = rvl b1 x.own from List.take_of_length_le (by rw [rvl_len]; exact Nat.le_refl _)] at hrw
                rw [rvl_len]; exact hrw
              obtain ⟨x1, cap1, rfl, _, _⟩ := rowSlice hrF
              obtain ⟨x2, cap2, rfl, _, _⟩ := rowSlice hrO
              have y0 := hYs.cell 0
              have y1 := hYs.cell 1
              simp at y0 y1
              have hCl9 := hCl'.out.below hbs
              have hwi := hbs.size
              clear a0 hrw hXs
              go_wp2_with (at_builtin; refine wpList_append_own _ rfl _ _ 29 rfl w5.heap.size 53 iC (.agg #[.slice none 0 0, .slice none 0 0]) 2 48 (by kernel_rfl) hiC hC0 hCs hCb rfl (by decide) _ _ _ rfl (hCl9.cr.alloc _) ⟨wr.heap.size, 0, none⟩ 1 1 [.slice x1 (rvl b0 x.fleet).length cap1, .slice x2 (rvl b1 x.own).length cap2] rfl rfl (World.news_of_block (cs := #[.slice x1 (rvl b0 x.fleet).length cap1, .slice x2 (rvl b1 x.own).length cap2]) (t := 53) (fr := (0, 0)) (heap_alloc_new wr _)) (by simp [Value.oneCell']) (by unfold maxLen; omega) (by omega) (by simp; omega) ?_; intro v7 w8 hown7 hgrow7 hnil7)
              have hC9 := (hCl9.below (below_alloc1D wr (.cells #[.slice x1 (rvl b0 x.fleet).length cap1, .slice x2 (rvl b1 x.own).length cap2] 53))).more (x0 := turnC b0 b1 x) (u0 := (.slice x1 (rvl b0 x.fleet).length cap1, .slice x2 (rvl b1 x.own).length cap2)) hown7 hgrow7 (rowBase (hrF.alloc _) (by omega)) (rowBase (hrO.alloc _) (by omega))
              have hb11 := ((hb6'.out.trans (hbs.mono hwo5)).trans ((below_alloc1D wr (.cells #[.slice x1 (rvl b0 x.fleet).length cap1, .slice x2 (rvl b1 x.own).length cap2] 53)).mono (by omega))).grown hgrow7 (by simp; omega) (fun x e => (hCl9.cr.lt _ e).1)
              rw [← take_snoc (show (s.cars.map (turnC b0 b1))[j]? = some (turnC b0 b1 x) by rw [List.getElem?_map, hx]; rfl)] at hC9
              clear hown7 hgrow7 hnil7 hrF hrO hYs y0 y1 x0 hCl9
              go_roundw
              case rel => exact LpC.mk_ (j + 1) _ (by go_num) hlt (by simp; omega) hb11 hC9
              case measure => simp [intOf]; omega
    · have hje : j = us.length := by omega
      rw [show (s.cars.map (turnC b0 b1)).take j = s.cars.map (turnC b0 b1) from List.take_of_length_le (by rw [List.length_map]; omega)] at hCl
      obtain ⟨xl, cl, rfl, _, _⟩ := rowSlice hCl.cr
      have p0 := hX6.cell 0
      have p2 := hX6.cell 2
      have p3 := hX6.cell 3
      have p4 := hX6.cell 4
      have p5 := hX6.cell 5
      have p6 := hX6.cell 6
      simp at p0 p2 p3 p4 p5 p6
      have hT := At.new wr 33 #[.slice xR s.reqs.length cR, .slice xC us.length cC, .slice xL s.lots.length cL, .int .i64 s.cm, .int .i64 s.rv, .int .i64 s.sch, .slice xD s.draws cD]
      have t1 := hT.cell 1
      have t2 := hT.cell 2
      simp at t1 t2
      have tf := hT.free
      clear hje hT
      go_upto_region 28 with fail
      obtain ⟨Y, hY⟩ : ∃ Y, Y = wr.heap.size := ⟨_, rfl⟩
      obtain ⟨w9, hw9⟩ : ∃ w9, wr.alloc (.cells #[.slice xR s.reqs.length cR, .slice xl us2.length cl, .slice none 0 0, .int .i64 s.cm, .int .i64 s.rv, .int .i64 s.sch, .slice xD s.draws cD] 33) = w9 := ⟨_, rfl⟩
      have hYa : At w9 Y 33 #[.slice xR s.reqs.length cR, .slice xl us2.length cl, .slice none 0 0, .int .i64 s.cm, .int .i64 s.rv, .int .i64 s.sch, .slice xD s.draws cD] := by rw [← hw9]; exact At.new_ _ _ _ hY
      have hb9 : Below wr.heap.size wr w9 := by rw [← hw9]; exact below_alloc1D _ _
      have hYw : Y ≤ wr.heap.size ∧ wr.heap.size ≤ Y := by omega
      rw [hw9, ← hY]
      obtain ⟨wo, hwo⟩ : ∃ wo, wo = wr := ⟨_, rfl⟩
      rw [← hwo] at hb9 hYw hb6 hCl hX6 hA6
      clear hwo hw9 hY p0 p1 p2 p3 p4 p5 p6 t1 t2 tf
      have hqo := hX6.inside
      have hno := hA6.inside
      have hX6' := Lib.hid hX6
      have hA6' := Lib.hid hA6
      have hCl' := Lib.hid hCl
      have hb6' := Lib.hid hb6
      have hwo5 : w5.heap.size ≤ wo.heap.size := hb6.size
      have hrwL : ∀ W, Below wo.heap.size wo W → RowB w5.heap.size W (.slice xL s.lots.length cL) 2 (s.lots.map ltV) := fun W hb => (hS'.out.keep hb6'.out (Nat.le_refl _)).lots.keep hb hwo5
      have hlot := (hS'.out.keep hb6'.out (Nat.le_refl _)).lots
      clear hX6 hA6 hCl hb6 hrwL
      go_wp2_with fail
      go_loopw [16] (fun v ws => LpL wo Y (.slice xR s.reqs.length cR) (.slice xl us2.length cl) (.slice xD s.draws cD) s.cm s.rv s.sch b2 s.lots v ws) (fun v _ => s.lots.length - (intOf v).toNat)
      case atStart => exact LpL.mk_ 0 _ rfl (Nat.zero_le _) hb9 hYa (World.ownsRow_nil _ _ _ _)
      case round =>
        obtain ⟨m, vA, rfl, hm, hbs, hYs, hrw⟩ := hrel
        have hXs := hX6'.out.keep hbs hqo
        have x0 := hXs.cell 2
        have a0 := (hA6'.out.keep hbs hno).cell 2
        simp at x0 a0
        by_cases hlt2 : m < s.lots.length
        · rcases Bool.eq_false_or_eq_true b2 with hbb | hbb

          · rw [hbb] at a0
            obtain ⟨kk, hkk⟩ : ∃ kk : Nat, (s.lots.length : Int) - 1 - m = kk := ⟨((s.lots.length : Int) - 1 - m).toNat, by omega⟩
            have hk2 : kk < s.lots.length ∧ s.lots.length - 1 - m = kk := by omega
            obtain ⟨hv, hhv⟩ : ∃ hv, s.lots[kk]? = some hv := ⟨_, List.getElem?_eq_getElem hk2.1⟩
            have hnx : (rvl b2 s.lots)[m]? = some hv := by rw [rvl_get _ _ hlt2, hbb]; simp only [if_true]; rw [hk2.2]; exact hhv
            obtain ⟨gE, oE, hxE, hgE, hcE⟩ := RowB.row hlot (j := kk) (r := ltV hv) (by rw [List.getElem?_map, hhv]; rfl)
            subst hxE
            clear hhv hbb
            go_upto_region 34 with fail
            refine Sched.wp_region_sched 8 (fun W W' => W.grownBy W' none) (VCp (.pointer (some ⟨Y, 2, none⟩)) (vA) (.pointer (some ⟨q, 2, none⟩)) (.slice (some ⟨gE, oE, none⟩) s.lots.length cL) (.int .i64 (kk : Int)) (.pointer (some ⟨gE, oE + kk * 2, none⟩)) (.agg #[.int .i64 hv.req, .int .i64 hv.res]) wr.heap.size 59 #[.int .i64 hv.req, .int .i64 hv.res]) (fun _ _ _ => True) (by kernel_rfl) (by kernel_rfl) (by kernel_rfl) (fun h1 h2 => h1.trans h2) (fun h1 h2 => VCp.keep h1 h2) (gDrew _ _) (fun _ => trivial) (Sched.StepsA.steps (by kernel_rfl) ?hSl1) ?hQl1
            case hSl1 =>
             simp only [List.take_succ_cons, List.take_zero]
             refine ⟨?_, ?_, ?_, ?_, ?_, ?_, ?_, ?_, trivial⟩
             · intro ys done W aa hE hn hF hD hZ hG hO
               replace hE : wr.grownBy W none := hE
               have o1 := hO 15 (by kernel_rfl)
               replace o1 : aa.tmps[15]? = some (.pointer (some ⟨Y, 0, none⟩)) := o1
               go_wp2_with fail
               exact ⟨_, rfl, gRefl _ _, rfl⟩
             · intro ys done W aa hE hn hF hD hZ hG hO
               replace hE : wr.grownBy W none := hE
               have v0 := hF 0 (by decide) (hD 0 (by kernel_rfl))
               replace v0 : ys 0 = .pointer (some ⟨Y, 2, none⟩) := v0
               have g0 := hG 0 112 rfl (Nat.le_of_ble_eq_true rfl)
               rw [v0] at g0
               have p := (gAt hYs hE (by simp)).cell 2
               simp at p
               go_wp2_with fail
               exact ⟨_, rfl, gRefl _ _, rfl⟩
             · intro ys done W aa hE hn hF hD hZ hG hO
               replace hE : wr.grownBy W none := hE
               have o1 := hO 5 (by kernel_rfl)
               replace o1 : aa.tmps[5]? = some (.pointer (some ⟨q, 0, none⟩)) := o1
               go_wp2_with fail
               exact ⟨_, rfl, gRefl _ _, rfl⟩
             · intro ys done W aa hE hn hF hD hZ hG hO
               replace hE : wr.grownBy W none := hE
               have v2 := hF 2 (by decide) (hD 2 (by kernel_rfl))
               replace v2 : ys 2 = .pointer (some ⟨q, 2, none⟩) := v2
               have g2 := hG 2 114 rfl (Nat.le_of_ble_eq_true rfl)
               rw [v2] at g2
               have p := (gAt hXs hE (by simp)).cell 2
               simp at p
               go_wp2_with fail
               exact ⟨_, rfl, gRefl _ _, rfl⟩
             · intro ys done W aa hE hn hF hD hZ hG hO
               replace hE : wr.grownBy W none := hE
               have o1 := hO 17 (by kernel_rfl)
               replace o1 : aa.tmps[17]? = some (.int .i64 (kk : Int)) := o1
               go_wp2_with fail
               exact ⟨_, rfl, gRefl _ _, rfl⟩
             · intro ys done W aa hE hn hF hD hZ hG hO
               replace hE : wr.grownBy W none := hE
               have v3 := hF 3 (by decide) (hD 3 (by kernel_rfl))
               replace v3 : ys 3 = .slice (some ⟨gE, oE, none⟩) s.lots.length cL := v3
               have g3 := hG 3 115 rfl (Nat.le_of_ble_eq_true rfl)
               rw [v3] at g3
               have v4 := hF 4 (by decide) (hD 4 (by kernel_rfl))
               replace v4 : ys 4 = .int .i64 (kk : Int) := v4
               have g4 := hG 4 116 rfl (Nat.le_of_ble_eq_true rfl)
               rw [v4] at g4
               go_wp2_with fail
               exact ⟨_, rfl, gRefl _ _, rfl⟩
             · intro ys done W aa hE hn hF hD hZ hG hO
               replace hE : wr.grownBy W none := hE
               have v5 := hF 5 (by decide) (hD 5 (by kernel_rfl))
               replace v5 : ys 5 = .pointer (some ⟨gE, oE + kk * 2, none⟩) := v5
               have g5 := hG 5 117 rfl (Nat.le_of_ble_eq_true rfl)
               rw [v5] at g5
               have hbW : Below wo.heap.size wo W := hbs.grown hE hbs.size (fun x e => by cases e)
               have e0 := (hbW.cell (p := ⟨gE, oE + kk * 2 + 0, none⟩) (Nat.lt_of_lt_of_le hgE hwo5)).trans (hcE 0 _ rfl)
               have e1 := (hbW.cell (p := ⟨gE, oE + kk * 2 + 1, none⟩) (Nat.lt_of_lt_of_le hgE hwo5)).trans (hcE 1 _ rfl)
               simp at e0 e1
               go_wp2_with fail
               exact ⟨_, rfl, gRefl _ _, rfl⟩
             · intro ys done W aa hE hn hF hD hZ hG hO
               replace hE : wr.grownBy W none := hE
               have v6 := hF 6 (by decide) (hD 6 (by kernel_rfl))
               replace v6 : ys 6 = .agg #[.int .i64 hv.req, .int .i64 hv.res] := v6
               have g6 := hG 6 118 rfl (Nat.le_of_ble_eq_true rfl)
               rw [v6] at g6
               go_wp2_with fail
               exact ⟨_, rfl, World.grownBy_alloc _ _ _, ⟨_, rfl, hE.size, At.new _ _ _⟩⟩
            case hQl1 =>
             intro ys W hE hF _
             replace hE : wr.grownBy W none := hE
             have v1 : ys 1 = vA := hF 1 (by decide)
             obtain ⟨g1, e7, hg1, hA1⟩ := (show VCp _ _ _ _ _ _ _ _ _ _ 7 (ys 7) W from hF 7 (by decide)).out
             simp only [List.take_succ_cons, List.take_zero, List.drop_succ_cons, List.drop_zero, Sched.fill, v1, e7]
             clear hF v1 e7
             have hb9 := hbs.grown hE hbs.size (fun x e => by cases e)
             have hY9 := gAt hYs hE (by simp)
             have hr9 := hrw.kept hE (rowFree hrw (fun x e => by cases e))
             have hYi := hY9.inside
             clear hE hYs hrw hbs hXs
             go_simp
             go_wp2_with (at_builtin; refine wpList_append_own _ rfl _ _ 30 rfl (Y + 1) 59 iL (.agg #[.int .i64 0, .int .i64 0]) 2 16 (by kernel_rfl) hiL hLL0 hLs hLb rfl (by decide) _ _ _ rfl hr9 ⟨g1, 0, none⟩ 1 1 [.int .i64 hv.req, .int .i64 hv.res] rfl rfl (World.news_of_block (cs := #[.int .i64 hv.req, .int .i64 hv.res]) (t := 59) (fr := (0, 0)) hA1) (by simp [Value.oneCell']) (by unfold maxLen; omega) (by omega) (by omega) ?_; intro v7 w8 hown7 hgrow7 hnil7; have hbx7 := gAt hY9 hgrow7 (fun e => by have := (hr9.lt _ e.symm).1; omega); have q0 := hbx7.cell 2; simp at q0; have qf0 := hbx7.free 2; obtain ⟨g7, cap7, h7, hg7⟩ := rowOpen hown7; subst h7)
             have hb10 := (hb9.grown hgrow7 hb9.size (fun x e => by have := (hr9.lt _ e).1; omega)).grown (put_grown w8 Y 2 (.slice (some ⟨g7, 0, none⟩) (m + 1) cap7)) (by have := hb9.size; have := hgrow7.size; omega) (fun x e => by cases e; omega)
             have hY10 := hbx7.put 2 (.slice (some ⟨g7, 0, none⟩) (m + 1) cap7)
             simp at hY10
             have hr10 := hown7.kept (put_grown w8 Y 2 (.slice (some ⟨g7, 0, none⟩) (m + 1) cap7)) (rowNe hown7 (by omega))
             rw [show flatL ((rvl b2 s.lots).take m) ++ [.int .i64 hv.req, .int .i64 hv.res] = flatL ((rvl b2 s.lots).take (m + 1)) by rw [take_snoc hnx, flatL_snoc]; rfl] at hr10
             clear hb9 hY9 hr9 hown7 hgrow7 hbx7 hnil7 q0 qf0 hA1 x0 a0
             go_roundw
             case rel => exact LpL.mk_ (m + 1) _ (by go_num) hlt2 hb10 hY10 hr10
             case measure => simp [intOf]; omega
          · rw [hbb] at a0
            have hk2 : m < s.lots.length ∧ m = m := ⟨hlt2, rfl⟩
            obtain ⟨hv, hhv⟩ : ∃ hv, s.lots[m]? = some hv := ⟨_, List.getElem?_eq_getElem hk2.1⟩
            have hnx : (rvl b2 s.lots)[m]? = some hv := by rw [rvl_get _ _ hlt2, hbb]; simp only [Bool.false_eq_true, if_false]; exact hhv
            obtain ⟨gE, oE, hxE, hgE, hcE⟩ := RowB.row hlot (j := m) (r := ltV hv) (by rw [List.getElem?_map, hhv]; rfl)
            subst hxE
            clear hhv hbb
            go_upto_region 34 with fail
            refine Sched.wp_region_sched 8 (fun W W' => W.grownBy W' none) (VCp (.pointer (some ⟨Y, 2, none⟩)) (vA) (.pointer (some ⟨q, 2, none⟩)) (.slice (some ⟨gE, oE, none⟩) s.lots.length cL) (.int .i64 (m : Int)) (.pointer (some ⟨gE, oE + m * 2, none⟩)) (.agg #[.int .i64 hv.req, .int .i64 hv.res]) wr.heap.size 59 #[.int .i64 hv.req, .int .i64 hv.res]) (fun _ _ _ => True) (by kernel_rfl) (by kernel_rfl) (by kernel_rfl) (fun h1 h2 => h1.trans h2) (fun h1 h2 => VCp.keep h1 h2) (gDrew _ _) (fun _ => trivial) (Sched.StepsA.steps (by kernel_rfl) ?hSl0) ?hQl0
            case hSl0 =>
             simp only [List.take_succ_cons, List.take_zero]
             refine ⟨?_, ?_, ?_, ?_, ?_, ?_, ?_, ?_, trivial⟩
             · intro ys done W aa hE hn hF hD hZ hG hO
               replace hE : wr.grownBy W none := hE
               have o1 := hO 15 (by kernel_rfl)
               replace o1 : aa.tmps[15]? = some (.pointer (some ⟨Y, 0, none⟩)) := o1
               go_wp2_with fail
               exact ⟨_, rfl, gRefl _ _, rfl⟩
             · intro ys done W aa hE hn hF hD hZ hG hO
               replace hE : wr.grownBy W none := hE
               have v0 := hF 0 (by decide) (hD 0 (by kernel_rfl))
               replace v0 : ys 0 = .pointer (some ⟨Y, 2, none⟩) := v0
               have g0 := hG 0 112 rfl (Nat.le_of_ble_eq_true rfl)
               rw [v0] at g0
               have p := (gAt hYs hE (by simp)).cell 2
               simp at p
               go_wp2_with fail
               exact ⟨_, rfl, gRefl _ _, rfl⟩
             · intro ys done W aa hE hn hF hD hZ hG hO
               replace hE : wr.grownBy W none := hE
               have o1 := hO 5 (by kernel_rfl)
               replace o1 : aa.tmps[5]? = some (.pointer (some ⟨q, 0, none⟩)) := o1
               go_wp2_with fail
               exact ⟨_, rfl, gRefl _ _, rfl⟩
             · intro ys done W aa hE hn hF hD hZ hG hO
               replace hE : wr.grownBy W none := hE
               have v2 := hF 2 (by decide) (hD 2 (by kernel_rfl))
               replace v2 : ys 2 = .pointer (some ⟨q, 2, none⟩) := v2
               have g2 := hG 2 114 rfl (Nat.le_of_ble_eq_true rfl)
               rw [v2] at g2
               have p := (gAt hXs hE (by simp)).cell 2
               simp at p
               go_wp2_with fail
               exact ⟨_, rfl, gRefl _ _, rfl⟩
             · intro ys done W aa hE hn hF hD hZ hG hO
               replace hE : wr.grownBy W none := hE
               have o1 := hO 17 (by kernel_rfl)
               replace o1 : aa.tmps[17]? = some (.int .i64 (m : Int)) := o1
               go_wp2_with fail
               exact ⟨_, rfl, gRefl _ _, rfl⟩
             · intro ys done W aa hE hn hF hD hZ hG hO
               replace hE : wr.grownBy W none := hE
               have v3 := hF 3 (by decide) (hD 3 (by kernel_rfl))
               replace v3 : ys 3 = .slice (some ⟨gE, oE, none⟩) s.lots.length cL := v3
               have g3 := hG 3 115 rfl (Nat.le_of_ble_eq_true rfl)
               rw [v3] at g3
               have v4 := hF 4 (by decide) (hD 4 (by kernel_rfl))
               replace v4 : ys 4 = .int .i64 (m : Int) := v4
               have g4 := hG 4 116 rfl (Nat.le_of_ble_eq_true rfl)
               rw [v4] at g4
               go_wp2_with fail
               exact ⟨_, rfl, gRefl _ _, rfl⟩
             · intro ys done W aa hE hn hF hD hZ hG hO
               replace hE : wr.grownBy W none := hE
               have v5 := hF 5 (by decide) (hD 5 (by kernel_rfl))
               replace v5 : ys 5 = .pointer (some ⟨gE, oE + m * 2, none⟩) := v5
               have g5 := hG 5 117 rfl (Nat.le_of_ble_eq_true rfl)
               rw [v5] at g5
               have hbW : Below wo.heap.size wo W := hbs.grown hE hbs.size (fun x e => by cases e)
               have e0 := (hbW.cell (p := ⟨gE, oE + m * 2 + 0, none⟩) (Nat.lt_of_lt_of_le hgE hwo5)).trans (hcE 0 _ rfl)
               have e1 := (hbW.cell (p := ⟨gE, oE + m * 2 + 1, none⟩) (Nat.lt_of_lt_of_le hgE hwo5)).trans (hcE 1 _ rfl)
               simp at e0 e1
               go_wp2_with fail
               exact ⟨_, rfl, gRefl _ _, rfl⟩
             · intro ys done W aa hE hn hF hD hZ hG hO
               replace hE : wr.grownBy W none := hE
               have v6 := hF 6 (by decide) (hD 6 (by kernel_rfl))
               replace v6 : ys 6 = .agg #[.int .i64 hv.req, .int .i64 hv.res] := v6
               have g6 := hG 6 118 rfl (Nat.le_of_ble_eq_true rfl)
               rw [v6] at g6
               go_wp2_with fail
               exact ⟨_, rfl, World.grownBy_alloc _ _ _, ⟨_, rfl, hE.size, At.new _ _ _⟩⟩
            case hQl0 =>
             intro ys W hE hF _
             replace hE : wr.grownBy W none := hE
             have v1 : ys 1 = vA := hF 1 (by decide)
             obtain ⟨g1, e7, hg1, hA1⟩ := (show VCp _ _ _ _ _ _ _ _ _ _ 7 (ys 7) W from hF 7 (by decide)).out
             simp only [List.take_succ_cons, List.take_zero, List.drop_succ_cons, List.drop_zero, Sched.fill, v1, e7]
             clear hF v1 e7
             have hb9 := hbs.grown hE hbs.size (fun x e => by cases e)
             have hY9 := gAt hYs hE (by simp)
             have hr9 := hrw.kept hE (rowFree hrw (fun x e => by cases e))
             have hYi := hY9.inside
             clear hE hYs hrw hbs hXs
             go_simp
             go_wp2_with (at_builtin; refine wpList_append_own _ rfl _ _ 30 rfl (Y + 1) 59 iL (.agg #[.int .i64 0, .int .i64 0]) 2 16 (by kernel_rfl) hiL hLL0 hLs hLb rfl (by decide) _ _ _ rfl hr9 ⟨g1, 0, none⟩ 1 1 [.int .i64 hv.req, .int .i64 hv.res] rfl rfl (World.news_of_block (cs := #[.int .i64 hv.req, .int .i64 hv.res]) (t := 59) (fr := (0, 0)) hA1) (by simp [Value.oneCell']) (by unfold maxLen; omega) (by omega) (by omega) ?_; intro v7 w8 hown7 hgrow7 hnil7; have hbx7 := gAt hY9 hgrow7 (fun e => by have := (hr9.lt _ e.symm).1; omega); have q0 := hbx7.cell 2; simp at q0; have qf0 := hbx7.free 2; obtain ⟨g7, cap7, h7, hg7⟩ := rowOpen hown7; subst h7)
             have hb10 := (hb9.grown hgrow7 hb9.size (fun x e => by have := (hr9.lt _ e).1; omega)).grown (put_grown w8 Y 2 (.slice (some ⟨g7, 0, none⟩) (m + 1) cap7)) (by have := hb9.size; have := hgrow7.size; omega) (fun x e => by cases e; omega)
             have hY10 := hbx7.put 2 (.slice (some ⟨g7, 0, none⟩) (m + 1) cap7)
             simp at hY10
             have hr10 := hown7.kept (put_grown w8 Y 2 (.slice (some ⟨g7, 0, none⟩) (m + 1) cap7)) (rowNe hown7 (by omega))
             rw [show flatL ((rvl b2 s.lots).take m) ++ [.int .i64 hv.req, .int .i64 hv.res] = flatL ((rvl b2 s.lots).take (m + 1)) by rw [take_snoc hnx, flatL_snoc]; rfl] at hr10
             clear hb9 hY9 hr9 hown7 hgrow7 hbx7 hnil7 q0 qf0 hA1 x0 a0
             go_roundw
             case rel => exact LpL.mk_ (m + 1) _ (by go_num) hlt2 hb10 hY10 hr10
             case measure => simp [intOf]; omega
        · have hme : m = s.lots.length := by omega
          have hrL : wr.ownsRow (Y + 1) 59 2 vA (rvl b2 s.lots).length (flatL (rvl b2 s.lots)) := by
            rw [show (rvl b2 s.lots).take m = rvl b2 s.lots from List.take_of_length_le (by rw [rvl_len]; omega), hme] at hrw
            rw [rvl_len]; exact hrw
          obtain ⟨xm, cm, rfl, _, _⟩ := rowSlice hrL
          have hSx := ((hS'.out.keep hb6'.out (Nat.le_refl _)).keep hbs hwo5)
          have hsz := hbs.size
          have hSs := hSx.more (Nat.le_trans hwo5 hsz)
          have hSt : SceneAt wr.heap.size wr (.slice xR s.reqs.length cR) (.slice xl us2.length cl) (.slice xm (rvl b2 s.lots).length cm) (.slice xD s.draws cD) us2 (turnS b0 b1 b2 s) :=
            ⟨hSs.reqs, (hCl'.out.below hbs).cars, RowB.of_owns hrL (by simp [turnS]) (rowsLen (f := ltV) (m := 2) (fun _ => rfl) _), hSs.draws⟩
          have hdt := turn_drawn b0 b1 b2 hdr'.out
          have hft := drawn_fair hdt
          have hb5r : Below w5.heap.size w5 wr := hb6'.out.trans (hbs.mono hwo5)
          have huw := (huo'.out.keep hb5r (Nat.le_refl _)).more hb5r.size
          have hBr := hB5.trans (hb5r.mono (Nat.le_trans hnw.1 hB5.size))
          have hXs' := hX6'.out.keep hbs hqo
          have p0 := hXs'.cell 0
          have p1 := hXs'.cell 1
          have p2 := hXs'.cell 2
          have p3 := hXs'.cell 3
          have p4 := hXs'.cell 4
          have p5 := hXs'.cell 5
          have p6 := hXs'.cell 6
          simp at p0 p1 p2 p3 p4 p5 p6
          have hSs' := Lib.hid hSs
          have hSt' := Lib.hid hSt
          have hYs' := Lib.hid hYs
          have hdt' := Lib.hid hdt
          have hft' := Lib.hid hft
          have huw' := Lib.hid huw
          have hBr' := Lib.hid hBr
          have hBs : n ≤ wr.heap.size := Nat.le_trans hnw.1 hBr.size
          clear hme hrw hrL hSx hSs hSt hb5r huw hBr hXs' hYs hdt hft hXs x0 a0
          go_wp2_with fail
          refine (Check_any s hfair'.out _ _ _ _ us _ hSs'.out).mono ?_
          rintro e V0 ⟨⟨u, rfl, hu⟩, hc0⟩
          rw [drawn_ok hdr'.out] at hu
          have hu' : u = .nilIface := by
            rcases hu with ⟨_, h⟩ | ⟨h, _⟩
            · exact h
            · exact absurd rfl h
          subst hu'
          clear hu p0 p1 p2 p3 p4 p5 p6
          have hY0 := hYs'.out.keep hc0 hYs'.out.inside
          have y0 := hY0.cell 0
          have y1 := hY0.cell 1
          have y2 := hY0.cell 2
          have y3 := hY0.cell 3
          have y4 := hY0.cell 4
          have y5 := hY0.cell 5
          have y6 := hY0.cell 6
          simp at y0 y1 y2 y3 y4 y5 y6
          have hT0 := (hSt'.out.keep hc0 (Nat.le_refl _)).more hc0.size
          go_wp2_with fail
          refine (Check_any (turnS b0 b1 b2 s) hft'.out _ _ _ _ us2 _ hT0).mono ?_
          rintro e V1 ⟨⟨u, rfl, hu⟩, hc1⟩
          rw [drawn_ok hdt'.out] at hu
          have hu' : u = .nilIface := by
            rcases hu with ⟨_, h⟩ | ⟨h, _⟩
            · exact h
            · exact absurd rfl h
          subst hu'
          clear hu y0 y1 y2 y3 y4 y5 y6
          have hY1 := hY0.keep hc1 hY0.inside
          have y0 := hY1.cell 0
          have y1 := hY1.cell 1
          have y2 := hY1.cell 2
          have y3 := hY1.cell 3
          have y4 := hY1.cell 4
          have y5 := hY1.cell 5
          have y6 := hY1.cell 6
          simp at y0 y1 y2 y3 y4 y5 y6
          have hT1 := (hT0.keep hc1 (Nat.le_refl _)).more hc1.size
          clear hY0 hT0 hY1
          go_wp2_with fail
          refine (Owners_any (turnS b0 b1 b2 s) hft'.out _ _ _ _ us2 _ _ _ (by have := hdt'.out.num; omega) _ hT1).mono ?_
          rintro e V2 ⟨⟨u2, rfl, hu2⟩, hc2⟩
          rw [turn_owners b0 b1 b2 hdr'.out] at hu2
          have hc := (hc0.trans (hc1.mono hc0.size)).trans (hc2.mono (Nat.le_trans hc0.size hc1.size))
          have hu1 := (huw'.out.keep hc (Nat.le_refl _)).more hc.size
          clear y0 y1 y2 y3 y4 y5 y6 hT1
          go_wp2_with fail
          refine (ints_yes _ _ (ownersL s) _ hu2 hu1).mono ?_
          rintro e V3 ⟨rfl, hc3⟩
          have hfin := ((hBr'.out.trans (hc.mono hBs)).trans (hc3.mono (Nat.le_trans hBs hc.size))).mono hnw.2
          clear hc0 hc1 hc2 hc3 hc hu1 hu2
          go_wp2
          go_ret
          exact ⟨rfl, hfin⟩

end Go.Proofs.YtlkijbakfoabaaaDoor.Scene

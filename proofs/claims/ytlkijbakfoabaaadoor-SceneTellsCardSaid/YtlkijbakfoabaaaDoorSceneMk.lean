/-
  Rows that a call has laid itself, as scenes; the chapter's scene.
-/
import Derived.Test.YtlkijbakfoabaaaDoorSceneTold
namespace Go.Proofs.YtlkijbakfoabaaaDoor.Scene
open Go.RowKit Go.Proofs.YtlkijbakfoabaaaDoor.Mem
set_option linter.unusedVariables false

theorem flat_get {α : Type} {m : Nat} : ∀ {rows : List (List α)}, (∀ r ∈ rows, r.length = m) → ∀ j r, rows[j]? = some r → ∀ k u, r[k]? = some u → rows.flatten[j * m + k]? = some u
  | [], _, j, r, hj, _, _, _ => by simp at hj
  | r0 :: rows, hm, j, r, hj, k, u, hk => by
    have h0 := hm r0 (List.mem_cons_self ..)
    rw [List.flatten_cons]
    cases j with
    | zero =>
      simp at hj
      subst hj
      have := (List.getElem?_eq_some_iff.1 hk).1
      rw [List.getElem?_append_left (by omega)]
      simpa using hk
    | succ j =>
      have hj' : rows[j]? = some r := by simpa using hj
      have ih := flat_get (fun r hr => hm r (List.mem_cons_of_mem _ hr)) j r hj' k u hk
      rw [List.getElem?_append_right (by rw [h0, Nat.succ_mul]; omega), h0, show (j + 1) * m + k - m = j * m + k by rw [Nat.succ_mul]; omega]
      exact ih

/-- A block that holds rows one behind the other. -/
theorem RowB.of_at {B : Nat} {W : World} {g m cap : Nat} {t : TypeId} {cs : Array Value} {rows : List (List Value)} (h : At W g t cs) (hg : g < B) (hm : ∀ r ∈ rows, r.length = m) (hcs : ∀ (i : Nat) (u : Value), rows.flatten[i]? = some u → cs[i]? = some u) (hc : rows.length ≤ cap) (hcap : cap ≤ maxLen) :
    RowB B W (.slice (some ⟨g, 0, none⟩) rows.length cap) m rows :=
  ⟨_, cap, rfl, hc, hcap, fun j r hj => ⟨g, 0, rfl, hg, fun k u hk => by
    rw [Nat.zero_add]
    exact (h.cell _).trans (hcs _ _ (flat_get hm j r hj k u hk))⟩⟩
theorem RowB.nil (B : Nat) (W : World) (m : Nat) : RowB B W (.slice none 0 0) m [] := ⟨none, 0, rfl, Nat.le_refl _, Nat.zero_le _, fun j r hj => by simp at hj⟩
theorem RowB.one {B : Nat} {W : World} {g m : Nat} {t : TypeId} {row : List Value} (h : At W g t row.toArray) (hg : g < B) (hm : row.length = m) : RowB B W (.slice (some ⟨g, 0, none⟩) 1 1) m [row] :=
  RowB.of_at (rows := [row]) h hg (fun r hr => by rw [List.mem_singleton.1 hr]; exact hm) (fun i u hu => by simpa using hu) (Nat.le_refl _) (by unfold maxLen; simp)

/-- One carrier. -/
theorem CarsAt.one {B : Nat} {W : World} {v a b : Value} {c : Cr} (h : RowB B W v 2 [[a, b]]) (hf : RowB B W a 5 (c.fleet.map vhV)) (ho : RowB B W b 1 (c.own.map inV)) : CarsAt B W v [(a, b)] [c] :=
  ⟨rfl, h, fun j u d hu hd => by
    cases j with
    | zero => simp at hu hd; subst hu; subst hd; exact ⟨hf, ho⟩
    | succ j => simp at hu⟩
theorem CarsAt.nil (B : Nat) (W : World) : CarsAt B W (.slice none 0 0) [] [] := ⟨rfl, RowB.nil B W 2, fun j u d hu hd => by simp at hu⟩

/-- The chapter's scene: one carrier with one vehicle. -/
def leastV : Vh := ⟨0, 0, 5, 0, 99⟩
def leastS : Sc := ⟨[], [⟨[leastV], []⟩], [], 1, 1, 0, 1⟩
def oneQ : Rq := ⟨0, 0, 1, 0, 0, 50, 0, 50, 1, 0⟩

/-- What least() lays, from block n on. -/
structure LeastAt (W : World) (n : Nat) : Prop where
  veh : At W (n + 1) 57 #[.int .i64 0, .int .i64 0, .int .i64 5, .int .i64 0, .int .i64 99]
  car : At W (n + 2) 53 #[.slice (some ⟨n + 1, 0, none⟩) 1 1, .slice none 0 0]
  draw : At W (n + 3) 73 #[.slice none 0 0]
theorem LeastAt.keep {W V : World} {n B : Nat} (h : LeastAt W n) (hb : Below B W V) (hB : n + 3 < B) : LeastAt V n := ⟨h.veh.keep hb (by omega), h.car.keep hb (by omega), h.draw.keep hb hB⟩
def leastW (n : Nat) : Array Value := #[.slice none 0 0, .slice (some ⟨n + 2, 0, none⟩) 1 1, .slice none 0 0, .int .i64 1, .int .i64 1, .int .i64 0, .slice (some ⟨n + 3, 0, none⟩) 1 1]

theorem res_scene {fn : Func} {p : Tmp} (h : fn.results = #[.cell p 33]) {tmps : Array Value} {w : World} {g : Nat} {x0 x1 x2 x3 x4 x5 x6 : Value} (hp : tmps.getD p undef = .pointer (some ⟨g, 0, none⟩))
    (hA : At w g 33 #[x0, x1, x2, x3, x4, x5, x6]) : (results fn tmps).run Tryd.prog w = .ok (.agg #[x0, x1, x2, x3, x4, x5, x6]) w := by
  have hp' : tmps[p]?.getD undef = .pointer (some ⟨g, 0, none⟩) := by simpa using hp
  have c0 := hA.cell 0
  have c1 := hA.cell 1
  have c2 := hA.cell 2
  have c3 := hA.cell 3
  have c4 := hA.cell 4
  have c5 := hA.cell 5
  have c6 := hA.cell 6
  simp at c0 c1 c2 c3 c4 c5 c6
  simp only [results, h]
  go_simp
theorem res_rq {fn : Func} {p : Tmp} (h : fn.results = #[.cell p 66]) {tmps : Array Value} {w : World} {g : Nat} {x0 x1 x2 x3 x4 x5 x6 x7 x8 x9 : Value} (hp : tmps.getD p undef = .pointer (some ⟨g, 0, none⟩))
    (hA : At w g 66 #[x0, x1, x2, x3, x4, x5, x6, x7, x8, x9]) : (results fn tmps).run Tryd.prog w = .ok (.agg #[x0, x1, x2, x3, x4, x5, x6, x7, x8, x9]) w := by
  have hp' : tmps[p]?.getD undef = .pointer (some ⟨g, 0, none⟩) := by simpa using hp
  have c0 := hA.cell 0
  have c1 := hA.cell 1
  have c2 := hA.cell 2
  have c3 := hA.cell 3
  have c4 := hA.cell 4
  have c5 := hA.cell 5
  have c6 := hA.cell 6
  have c7 := hA.cell 7
  have c8 := hA.cell 8
  have c9 := hA.cell 9
  simp at c0 c1 c2 c3 c4 c5 c6 c7 c8 c9
  simp only [results, h]
  go_simp

theorem least_any (w : World) :
    Calls Tryd.prog 18 #[] w fun e w' => e = .returned (.agg #[.slice none 0 0, .slice (some ⟨w.heap.size + 2, 0, none⟩) 1 1, .slice none 0 0, .int .i64 1, .int .i64 1, .int .i64 0, .slice (some ⟨w.heap.size + 3, 0, none⟩) 1 1]) ∧
      LeastAt w' w.heap.size ∧ w'.heap.size = w.heap.size + 4 ∧ Below w.heap.size w w' := by
  go_enter Tryd.func18, Tryd.ntmps18
  go_wp2
  exact bodyPost_ret (res_scene rfl rfl (((At.new _ _ _).alloc _).alloc _ |>.alloc _)) rfl ⟨rfl, ⟨((At.new_ _ _ _ (by simp)).alloc _).alloc _, (At.new_ _ _ _ (by simp)).alloc _, At.new_ _ _ _ (by simp)⟩, by simp, (((Below.refl _ _).alloc (Nat.le_refl _) _).alloc (by simp) _ |>.alloc (by simp; omega) _).alloc (by simp; omega) _⟩

theorem one_any (w : World) :
    Calls Tryd.prog 19 #[] w fun e w' => e = .returned (.agg #[.int .i64 0, .int .i64 0, .int .i64 1, .int .i64 0, .int .i64 0, .int .i64 50, .int .i64 0, .int .i64 50, .int .i64 1, .int .i64 0]) ∧ Below w.heap.size w w' := by
  go_enter Tryd.func19, Tryd.ntmps19
  go_wp2
  exact bodyPost_ret (res_rq rfl rfl (At.new _ _ _)) rfl ⟨rfl, (Below.refl _ _).alloc (Nat.le_refl _) _⟩

/-- A scene that fails just so. -/
theorem fails_yes (s : Sc) (hfair : Fair s) (c p i : Int) (hf : faultV s = (c, p, i)) (vR vC vL vD : Value) (us : List (Value × Value)) (w : World) (hg : Hd w) (h : SceneAt w.heap.size w vR vC vL vD us s) :
    Calls Tryd.prog 20 #[.agg #[vR, vC, vL, .int .i64 s.cm, .int .i64 s.rv, .int .i64 s.sch, vD], .int .i64 c, .int .i64 p, .int .i64 i] w fun e w' => e = .returned (.bool true) ∧ Below w.heap.size w w' := by
  have hRV := h.reqs
  have hCV := h.cars.row
  have hLV := h.lots
  have hDV := h.draws
  obtain ⟨xR, capR, rfl, _, _, _⟩ := hRV
  obtain ⟨xC, capC, rfl, _, _, _⟩ := hCV
  obtain ⟨xL, capL, rfl, _, _, _⟩ := hLV
  obtain ⟨xD, capD, rfl, _, _⟩ := hDV
  simp only [List.length_map] at h ⊢
  have hb : Below w.heap.size w (w.alloc (.cells #[.slice xR s.reqs.length capR, .slice xC us.length capC, .slice xL s.lots.length capL, .int .i64 s.cm, .int .i64 s.rv, .int .i64 s.sch, .slice xD s.draws capD] 33)) := (Below.refl _ _).alloc (Nat.le_refl _) _
  have hS := (h.keep hb (Nat.le_refl _)).more hb.size
  have hG := hg.keep hb hg.pos
  have hz : (c, p, i).1 = 0 → ((c, p, i) : Int × Int × Int) = (0, 0, 0) := by rw [← hf]; exact firstBad_code
  have hk := Check_any s hfair _ _ _ _ us _ hS
  have hpos := hG.pos
  have hz' := Lib.hid hz
  have hf' := Lib.hid hf
  have hG' := Lib.hid hG
  clear h hg hS hz hf hG
  go_enter Tryd.func20, Tryd.ntmps20
  go_wp2_with fail
  refine hk.mono ?_
  rintro e w2 ⟨⟨u, rfl, hu⟩, hb2⟩
  rw [hf'.out] at hu
  go_wp2_with fail
  refine (told_yes u (c, p, i) _ (hG'.out.keep hb2 hpos) hu hz'.out).mono ?_
  rintro e w3 ⟨rfl, hb3⟩
  go_wp2
  go_ret
  have hB2 := hb.trans (hb2.mono hb.size)
  exact ⟨rfl, hB2.trans (hb3.mono hB2.size)⟩

end Go.Proofs.YtlkijbakfoabaaaDoor.Scene

/-
  SceneKnown, closed.
-/
import Derived.Test.YtlkijbakfoabaaaDoorSceneKnownMath
namespace Go.Proofs.YtlkijbakfoabaaaDoor.Scene
open Go.RowKit Go.Sort Go.Proofs.YtlkijbakfoabaaaDoor.Mem
set_option linter.unusedVariables false

def zeroRow : Array Value := #[.int .i64 0, .int .i64 0, .int .i64 0, .int .i64 0, .int .i64 0, .int .i64 0, .int .i64 0, .int .i64 0, .int .i64 0, .int .i64 0]
/-- What 'make([]Request, 64)' lays. -/
def madeRqs : Array Value := madeCells zeroRow 640
theorem size_madeRqs : madeRqs.size = 640 := size_madeCells _ _
attribute [irreducible] madeRqs
theorem rqInfo : (Tryd.prog.info? 66).map (fun i => (i.zero.map Value.cells, i.size, i.bytes)) = some (some zeroRow, 10, 80) := by kernel_rfl
theorem run_madeRqs (W : World) : (Instr.makeSlice 28 (.int .i64 64) (.int .i64 64)).run Tryd.prog W = .ok (.slice (some ⟨W.heap.size, 0, none⟩) 64 64) (W.alloc (.cells madeRqs 66)) := by
  obtain ⟨i, hi, he⟩ := Option.map_eq_some_iff.1 rqInfo
  simp only [Prod.mk.injEq] at he
  obtain ⟨hz, hs, hb⟩ := he
  obtain ⟨z, hz, hzc⟩ := Option.map_eq_some_iff.1 hz
  have h := run_makeSlice (P := Tryd.prog) W 28 66 i z (by kernel_rfl) hi hz .i64 .i64 64 64 (by omega) (by omega) (by rw [hs]; decide) (by rw [hb]; decide) (by decide)
  rw [hzc, hs] at h
  unfold madeRqs
  exact h

def boxV (n : Nat) : Array Value := #[.slice (some ⟨n + 4 + 1, 0, none⟩) 64 64, .slice (some ⟨n + 2, 0, none⟩) 1 1, .slice none 0 0, .int .i64 1, .int .i64 1, .int .i64 0, .slice (some ⟨n + 3, 0, none⟩) 1 1]
/-- The scene, after k rounds. -/
structure KnownAt (W : World) (n k : Nat) : Prop where
  box : At W (n + 4) 33 #[.slice (some ⟨n + 4 + 1, 0, none⟩) 64 64, .slice (some ⟨n + 2, 0, none⟩) 1 1, .slice none 0 0, .int .i64 1, .int .i64 1, .int .i64 0, .slice (some ⟨n + 3, 0, none⟩) 1 1]
  veh : At W (n + 1) 57 #[.int .i64 0, .int .i64 0, .int .i64 5, .int .i64 0, .int .i64 99]
  draw : At W (n + 3) 73 #[.slice none 0 0]
  rqs : ∃ cs, At W (n + 4 + 1) 66 cs ∧ cs.size = 640 ∧ ∀ j, j < k → ∀ i u, (rqV oneQ)[i]? = some u → cs[j * 10 + i]? = some u
  own : ∃ own, At W (n + 2) 53 #[.slice (some ⟨n + 1, 0, none⟩) 1 1, own] ∧ W.ownsRow (n + 6) 3 1 own k (intsV ((List.range k).map fun j : Nat => 63 - (j : Int)))

/-- One more request is laid. -/
def putRq (cs : Array Value) (k : Nat) : Array Value := ((((((((((cs.setIfInBounds (k * 10) (.int .i64 0)).setIfInBounds (k * 10 + 1) (.int .i64 0)).setIfInBounds (k * 10 + 2) (.int .i64 1)).setIfInBounds (k * 10 + 3) (.int .i64 0)).setIfInBounds (k * 10 + 4) (.int .i64 0)).setIfInBounds (k * 10 + 5) (.int .i64 50)).setIfInBounds (k * 10 + 6) (.int .i64 0)).setIfInBounds (k * 10 + 7) (.int .i64 50)).setIfInBounds (k * 10 + 8) (.int .i64 1)).setIfInBounds (k * 10 + 9) (.int .i64 0))
theorem putRq_size (cs : Array Value) (k : Nat) : (putRq cs k).size = cs.size := by simp [putRq]
theorem putRq_row {cs : Array Value} {k : Nat} (hs : cs.size = 640) (hk : k < 64) (h : ∀ j, j < k → ∀ i u, (rqV oneQ)[i]? = some u → cs[j * 10 + i]? = some u) : ∀ j, j < k + 1 → ∀ i u, (rqV oneQ)[i]? = some u → (putRq cs k)[j * 10 + i]? = some u := by
  intro j hj i u hu
  have hi : i < 10 := by have := (List.getElem?_eq_some_iff.1 hu).1; simpa [rqV] using this
  by_cases hjk : j = k
  · subst hjk
    have h10 : i = 0 ∨ i = 1 ∨ i = 2 ∨ i = 3 ∨ i = 4 ∨ i = 5 ∨ i = 6 ∨ i = 7 ∨ i = 8 ∨ i = 9 := by omega
    rcases h10 with rfl | rfl | rfl | rfl | rfl | rfl | rfl | rfl | rfl | rfl <;>
      (simp [rqV, oneQ] at hu; subst hu; simp [putRq, Array.getElem?_setIfInBounds, hs]; try omega)
  · have hlt : j < k := by omega
    have := h j hlt i u hu
    simp only [putRq, Array.getElem?_setIfInBounds]
    simp only [show ∀ m, ¬ k * 10 + m = j * 10 + i from fun m => by omega, show ¬ k * 10 = j * 10 + i by omega, if_false]
    exact this
theorem putRq_at {w : World} {g : Nat} {cs : Array Value} {t : TypeId} (k : Nat) (h : At w g t cs) : At ((((((((((w.setCell ⟨g, k * 10, none⟩ (.int .i64 0)).setCell ⟨g, k * 10 + 1, none⟩ (.int .i64 0)).setCell ⟨g, k * 10 + 2, none⟩ (.int .i64 1)).setCell ⟨g, k * 10 + 3, none⟩ (.int .i64 0)).setCell ⟨g, k * 10 + 4, none⟩ (.int .i64 0)).setCell ⟨g, k * 10 + 5, none⟩ (.int .i64 50)).setCell ⟨g, k * 10 + 6, none⟩ (.int .i64 0)).setCell ⟨g, k * 10 + 7, none⟩ (.int .i64 50)).setCell ⟨g, k * 10 + 8, none⟩ (.int .i64 1)).setCell ⟨g, k * 10 + 9, none⟩ (.int .i64 0)) g t (putRq cs k) := ((((((((((h.put (k * 10) _).put (k * 10 + 1) _).put (k * 10 + 2) _).put (k * 10 + 3) _).put (k * 10 + 4) _).put (k * 10 + 5) _).put (k * 10 + 6) _).put (k * 10 + 7) _).put (k * 10 + 8) _).put (k * 10 + 9) _)

theorem grownAt {w v : World} {g : Nat} {t : TypeId} {cs : Array Value} {row : Option Nat} (h : At w g t cs) (hg : w.grownBy v row) (hne : some g ≠ row) : At v g t cs := (hg.block g h.inside hne).trans h
theorem own_ne {w : World} {base : Nat} {e : TypeId} {size : Nat} {v : Value} {n : Nat} {xs : List Value} (h : w.ownsRow base e size v n xs) {g : Nat} (hg : g < base) : v.ownBlock = none ∨ v.ownBlock ≠ some g := by
  cases hv : v.ownBlock with
  | none => exact Or.inl rfl
  | some b => exact Or.inr (fun e => by cases e; have := (h.lt _ hv).1; omega)
/-- The scene, in round k, its request laid. -/
structure MidAt (W : World) (n k : Nat) (own : Value) : Prop where
  box : At W (n + 4) 33 #[.slice (some ⟨n + 4 + 1, 0, none⟩) 64 64, .slice (some ⟨n + 2, 0, none⟩) 1 1, .slice none 0 0, .int .i64 1, .int .i64 1, .int .i64 0, .slice (some ⟨n + 3, 0, none⟩) 1 1]
  veh : At W (n + 1) 57 #[.int .i64 0, .int .i64 0, .int .i64 5, .int .i64 0, .int .i64 99]
  draw : At W (n + 3) 73 #[.slice none 0 0]
  rqs : ∃ cs, At W (n + 4 + 1) 66 cs ∧ cs.size = 640 ∧ ∀ j, j < k + 1 → ∀ i u, (rqV oneQ)[i]? = some u → cs[j * 10 + i]? = some u
  car : At W (n + 2) 53 #[.slice (some ⟨n + 1, 0, none⟩) 1 1, own]
theorem MidAt.grown {W V : World} {n k : Nat} {own : Value} {row : Option Nat} (h : MidAt W n k own) (hg : W.grownBy V row) (hr : ∀ b, row = some b → n + 6 ≤ b) : MidAt V n k own := by
  have hn : ∀ g, g < n + 6 → some g ≠ row := fun g hg' e => by have := hr g e.symm; omega
  obtain ⟨cs, h1, h2, h3⟩ := h.rqs
  exact ⟨grownAt h.box hg (hn _ (by omega)), grownAt h.veh hg (hn _ (by omega)), grownAt h.draw hg (hn _ (by omega)), ⟨cs, grownAt h1 hg (hn _ (by omega)), h2, h3⟩, grownAt h.car hg (hn _ (by omega))⟩

/-- What the operations of the second region of a round leave. -/
def VK (N n k : Nat) (own : Value) : Nat → Value → World → Prop
  | 0, y, _ => y = .pointer (some ⟨n + 4, 1, none⟩)
  | 1, y, _ => y = .slice (some ⟨n + 2, 0, none⟩) 1 1
  | 2, y, _ => y = .pointer (some ⟨n + 4, 1, none⟩)
  | 3, y, _ => y = .slice (some ⟨n + 2, 0, none⟩) 1 1
  | 4, y, _ => y = .pointer (some ⟨n + 2, 0, none⟩)
  | 5, y, _ => y = .pointer (some ⟨n + 2, 1, none⟩)
  | 6, y, _ => y = own
  | 7, y, _ => y = .int .i64 k
  | 8, y, _ => y = .int .i64 (63 - (k : Int))
  | 9, y, W => ∃ g, y = .slice (some ⟨g, 0, none⟩) 1 1 ∧ N ≤ g ∧ At W g 3 #[.int .i64 (63 - (k : Int))]
  | _, _, _ => True
theorem VK.keep {N n k : Nat} {own : Value} (hN : ∀ b, own.ownBlock = some b → b < N) {i : Nat} {v : Value} {W V : World} (h : VK N n k own i v W) (hg : W.grownBy V own.ownBlock) : VK N n k own i v V := by
  match i with
  | 0 | 1 | 2 | 3 | 4 | 5 | 6 | 7 | 8 => exact h
  | 9 =>
    obtain ⟨g, e, h1, h2⟩ := h
    exact ⟨g, e, h1, grownAt h2 hg (fun e => by have := hN g e.symm; omega)⟩
  | i + 10 => trivial
def ZK (n k : Nat) (own : Value) (done : Nat → Bool) (ys : Nat → Value) (W : World) : Prop :=
  (done 10 = false → W.ownsRow (n + 6) 3 1 own k (intsV ((List.range k).map fun j : Nat => 63 - (j : Int)))) ∧
  (done 10 = true → W.ownsRow (n + 6) 3 1 (ys 10) (k + 1) (intsV ((List.range (k + 1)).map fun j : Nat => 63 - (j : Int))))
theorem ZK.light {n k i : Nat} {own : Value} {done : Nat → Bool} {ys : Nat → Value} {W : World} {v : Value} (h : ZK n k own done ys W) (hi : i ≠ 10) : ZK n k own (Sched.mark done i) (Sched.upd ys i v) W := by
  have e1 : Sched.mark done i 10 = done 10 := if_neg (fun e => hi e.symm)
  have e2 : Sched.upd ys i v 10 = ys 10 := by simp [Sched.upd, show ¬ 10 = i from fun e => hi e.symm]
  exact ⟨fun hd => h.1 (by rw [← e1]; exact hd), fun hd => by rw [e2]; exact h.2 (by rw [← e1]; exact hd)⟩
theorem ZK.alloc {n k : Nat} {own : Value} {done : Nat → Bool} {ys : Nat → Value} {W : World} (h : ZK n k own done ys W) (o : Obj) : ZK n k own done ys (W.alloc o) := ⟨fun hd => (h.1 hd).alloc o, fun hd => (h.2 hd).alloc o⟩
theorem grown_refl (W : World) (row : Option Nat) : W.grownBy W row := ⟨rfl, rfl, rfl, Nat.le_refl _, fun _ _ _ => rfl⟩

theorem grown_own {w5 W V : World} {r row : Option Nat} (h : w5.grownBy W r) (hg : W.grownBy V row) (hr : ∀ b, row = some b → w5.heap.size ≤ b) : w5.grownBy V r :=
  ⟨hg.os.trans h.os, hg.tape.trans h.tape, hg.output.trans h.output, Nat.le_trans h.size hg.size, fun k hk hn => (hg.block k (by have := h.size; omega) (fun e => by have := hr k e.symm; omega)).trans (h.block k hk hn)⟩
def lotsV (k : Nat) : List Value := (List.range k).flatMap fun j : Nat => [.int .i64 (j : Int), .int .i64 16777216]
theorem lotsV_snoc (k : Nat) : lotsV (k + 1) = lotsV k ++ [.int .i64 (k : Int), .int .i64 16777216] := by simp [lotsV, List.range_succ, List.flatMap_append]
theorem below_alloc1 (w : World) (o : Obj) : Below w.heap.size w (w.alloc o) := (Below.refl _ _).alloc (Nat.le_refl _) _
theorem add_at (g j : Nat) : (⟨g, 0, none⟩ : Addr).add j = ⟨g, j, none⟩ := by
  unfold Addr.add
  split
  · rename_i h; rw [h]
  · simp
theorem own_open {W : World} {base : Nat} {e : TypeId} {size : Nat} {v : Value} {k : Nat} {xs : List Value} (h : W.ownsRow base e size v (k + 1) xs) : ∃ g cap, v = .slice (some ⟨g, 0, none⟩) (k + 1) cap ∧ base ≤ g := by
  rcases h.2 with ⟨_, h0⟩ | ⟨g, cap, cur, h1, hb, _⟩
  · omega
  · exact ⟨g, cap, h1, hb⟩
theorem info_lot : (Tryd.prog.info? 59).map (fun i => (i.zero, i.size, i.bytes)) = some (some (.agg #[.int .i64 0, .int .i64 0]), 2, 16) := by kernel_rfl

/-- The requests' cells, all. -/
theorem cs_all {cs : Array Value} (h : ∀ j, j < 64 → ∀ (i : Nat) (u : Value), (rqV oneQ)[i]? = some u → cs[j * 10 + i]? = some u) : ∀ (d : Nat) (u : Value), ((kQ 64).map rqV).flatten[d]? = some u → cs[d]? = some u := by
  intro d u hu
  have hm : ∀ r ∈ (kQ 64).map rqV, r.length = 10 := by
    intro r hr
    simp [kQ] at hr
    rw [← hr.2]
    rfl
  have hlen : ((kQ 64).map rqV).flatten.length = 640 := by decide +kernel
  have hd : d < 640 := by rw [← hlen]; exact (List.getElem?_eq_some_iff.1 hu).1
  have hj : ((kQ 64).map rqV)[d / 10]? = some (rqV oneQ) := by
    have : d / 10 < 64 := by omega
    simp [kQ, this]
  obtain ⟨v, hv⟩ : ∃ v, (rqV oneQ)[d % 10]? = some v := ⟨_, List.getElem?_eq_getElem (by show d % 10 < 10; omega)⟩
  have h1 := flat_get hm (d / 10) (rqV oneQ) hj (d % 10) v hv
  have h2 := h (d / 10) (by omega) (d % 10) v hv
  rw [show d / 10 * 10 + d % 10 = d by omega] at h1 h2
  rw [h1] at hu
  cases hu
  exact h2
theorem rows10 (n : Nat) : ∀ r ∈ (kQ n).map rqV, r.length = 10 := by
  intro r hr
  simp [kQ] at hr
  rw [← hr.2]
  rfl

def leastA (m : Nat) : Value := .agg #[.slice none 0 0, .slice (some ⟨m + 2, 0, none⟩) 1 1, .slice none 0 0, .int .i64 1, .int .i64 1, .int .i64 0, .slice (some ⟨m + 3, 0, none⟩) 1 1]
def bptr (g : Nat) : Value := .pointer (some ⟨g, 0, none⟩)
def Lst (N : Nat) (y : Value) (W : World) : Prop := ∃ m, y = leastA m ∧ LeastAt W m ∧ N ≤ m ∧ m + 4 ≤ W.heap.size
/-- The worlds of a region that lays scenes into new variables. -/
def Ext15 (N : Nat) (W V : World) : Prop := Below N W V ∧ ∀ (g : Nat) (t : TypeId) (cs : Array Value), At W g t cs → t ≠ 33 → At V g t cs
theorem Ext15.trans {N : Nat} {a b c : World} (h1 : Ext15 N a b) (h2 : Ext15 N b c) : Ext15 N a c := ⟨h1.1.trans h2.1, fun g t cs h ht => h2.2 g t cs (h1.2 g t cs h ht) ht⟩
theorem Ext15.below {N : Nat} {a b : World} (h : Below a.heap.size a b) (hN : N ≤ a.heap.size) : Ext15 N a b := ⟨h.mono hN, fun g t cs hA _ => hA.keep h hA.inside⟩
theorem Ext15.put {N : Nat} {a b : World} {g : Nat} {cs : Array Value} (hA : At a g 33 cs) (h : a.grownBy b (some g)) (hN : N ≤ g) : Ext15 N a b :=
  ⟨(Below.refl _ _).grown h (by have := hA.inside; omega) (fun k e => by cases e; exact hN), fun g' t cs' hA' ht => grownAt hA' h (fun e => (At.apart hA' hA ht) (Option.some.inj e))⟩
theorem LeastAt.ext {N m : Nat} {W V : World} (h : LeastAt W m) (hx : Ext15 N W V) : LeastAt V m := ⟨hx.2 _ _ _ h.veh (by decide), hx.2 _ _ _ h.car (by decide), hx.2 _ _ _ h.draw (by decide)⟩
theorem Lst.keep {N : Nat} {y : Value} {W V : World} (h : Lst N y W) (hb : Ext15 N W V) : Lst N y V := by
  obtain ⟨g, e, h1, h2, h3⟩ := h
  exact ⟨g, e, h1.ext hb, h2, Nat.le_trans h3 hb.1.size⟩
def V15 (N : Nat) (S : Value) : Nat → Value → World → Prop
  | 0, y, _ => y = S
  | 1, y, _ => y = S
  | 2, y, W => Lst N y W
  | 3, y, W => Lst N y W
  | 4, y, _ => y = S
  | _, _, _ => True
theorem V15.keep {N : Nat} {S : Value} {i : Nat} {v : Value} {W V : World} (h : V15 N S i v W) (hb : Ext15 N W V) : V15 N S i v V := by
  match i with
  | 0 | 1 | 4 => exact h
  | 2 | 3 => exact Lst.keep h hb
  | i + 5 => trivial
def V22 (N : Nat) (S : Value) : Nat → Value → World → Prop
  | 0, y, W => Lst N y W
  | 1, y, _ => y = S
  | _, _, _ => True
theorem V22.keep {N : Nat} {S : Value} {i : Nat} {v : Value} {W V : World} (h : V22 N S i v W) (hb : Ext15 N W V) : V22 N S i v V := by
  match i with
  | 1 => exact h
  | 0 => exact Lst.keep h hb
  | i + 2 => trivial
/-- c values, c new variables, c stores. -/
structure Z15 (N c : Nat) (done : Nat → Bool) (ys : Nat → Value) (W : World) : Prop where
  ord : ∀ i, c ≤ i → i < 2 * c → done (i + c) = true → done i = true ∧ done (i - c) = true
  box : ∀ i, c ≤ i → i < 2 * c → done i = true → ∃ g x0 x1 x2 x3 x4 x5 x6, ys i = bptr g ∧ N ≤ g ∧ At W g 33 #[x0, x1, x2, x3, x4, x5, x6] ∧ (done (i + c) = true → ys (i - c) = .agg #[x0, x1, x2, x3, x4, x5, x6])
  ne : ∀ i j, c ≤ i → i < j → j < 2 * c → done i = true → done j = true → ys i ≠ ys j
theorem mark_of {done : Nat → Bool} {k i : Nat} (h : done i = true) : Sched.mark done k i = true := by simp [Sched.mark, h]
theorem mark_ne {done : Nat → Bool} {k i : Nat} (h : i ≠ k) : Sched.mark done k i = done i := by simp [Sched.mark, h]
theorem upd_ne {ys : Nat → Value} {k i : Nat} {v : Value} (h : i ≠ k) : Sched.upd ys k v i = ys i := by simp [Sched.upd, h]
theorem upd_eq {ys : Nat → Value} {k : Nat} {v : Value} : Sched.upd ys k v k = v := by simp [Sched.upd]
theorem Z15.start (N c : Nat) (ys : Nat → Value) (W : World) : Z15 N c (fun _ => false) ys W := ⟨fun _ _ _ h => (by cases h), fun _ _ _ h => (by cases h), fun _ _ _ _ _ h => (by cases h)⟩
theorem Z15.light {N c k : Nat} {done : Nat → Bool} {ys : Nat → Value} {W V : World} {v : Value} (h : Z15 N c done ys W) (hk : k < c) (hn : done k = false) (hV : ∀ g cs, At W g 33 cs → At V g 33 cs) : Z15 N c (Sched.mark done k) (Sched.upd ys k v) V := by
  refine ⟨fun i h1 h2 h3 => ?_, fun i h1 h2 h3 => ?_, fun i j h1 h2 h3 h4 h5 => ?_⟩
  · rw [mark_ne (by omega)] at h3
    exact ⟨mark_of (h.ord i h1 h2 h3).1, mark_of (h.ord i h1 h2 h3).2⟩
  · rw [mark_ne (by omega)] at h3
    obtain ⟨g, x0, x1, x2, x3, x4, x5, x6, e, hN, hA, hs⟩ := h.box i h1 h2 h3
    refine ⟨g, x0, x1, x2, x3, x4, x5, x6, (by rw [upd_ne (by omega)]; exact e), hN, hV _ _ hA, fun h6 => ?_⟩
    rw [mark_ne (by omega)] at h6
    have h7 := (h.ord i h1 h2 h6).2
    rw [upd_ne (fun e => by rw [e, hn] at h7; cases h7)]
    exact hs h6
  · rw [mark_ne (by omega)] at h4 h5
    rw [upd_ne (by omega), upd_ne (by omega)]
    exact h.ne i j h1 h2 h3 h4 h5
theorem Z15.new {N c k : Nat} {done : Nat → Bool} {ys : Nat → Value} {W : World} (h : Z15 N c done ys W) (hk : c ≤ k) (hk2 : k < 2 * c) (hn : done k = false) (hN : N ≤ W.heap.size) :
    Z15 N c (Sched.mark done k) (Sched.upd ys k (bptr W.heap.size)) (W.alloc (.cells #[.slice none 0 0, .slice none 0 0, .slice none 0 0, .int .i64 0, .int .i64 0, .int .i64 0, .slice none 0 0] 33)) := by
  refine ⟨fun i h1 h2 h3 => ?_, fun i h1 h2 h3 => ?_, fun i j h1 h2 h3 h4 h5 => ?_⟩
  · rw [mark_ne (by omega)] at h3
    exact ⟨mark_of (h.ord i h1 h2 h3).1, mark_of (h.ord i h1 h2 h3).2⟩
  · by_cases hik : i = k
    · subst hik
      refine ⟨W.heap.size, _, _, _, _, _, _, _, upd_eq, hN, At.new _ _ _, fun h6 => ?_⟩
      rw [mark_ne (by omega)] at h6
      have := (h.ord i h1 h2 h6).1
      rw [hn] at this
      cases this
    · rw [mark_ne hik] at h3
      obtain ⟨g, x0, x1, x2, x3, x4, x5, x6, e, hN, hA, hs⟩ := h.box i h1 h2 h3
      refine ⟨g, x0, x1, x2, x3, x4, x5, x6, (by rw [upd_ne hik]; exact e), hN, hA.alloc _, fun h6 => ?_⟩
      rw [mark_ne (by omega)] at h6
      rw [upd_ne (by omega)]
      exact hs h6
  · by_cases hi : i = k
    · subst hi
      rw [mark_ne (by omega)] at h5
      rw [upd_eq, upd_ne (by omega)]
      obtain ⟨g, x0, x1, x2, x3, x4, x5, x6, e, _, hA, _⟩ := h.box j (by omega) h3 h5
      rw [e]
      intro e
      have := hA.inside
      simp [bptr] at e
      try omega
    · rw [mark_ne hi] at h4
      rw [upd_ne hi]
      by_cases hj : j = k
      · subst hj
        rw [upd_eq]
        obtain ⟨g, x0, x1, x2, x3, x4, x5, x6, e, _, hA, _⟩ := h.box i h1 (by omega) h4
        rw [e]
        intro e
        have := hA.inside
        simp [bptr] at e
        try omega
      · rw [mark_ne hj] at h5
        rw [upd_ne hj]
        exact h.ne i j h1 h2 h3 h4 h5
theorem Z15.put {N c i g : Nat} {x0 x1 x2 x3 x4 x5 x6 : Value} {done : Nat → Bool} {ys : Nat → Value} {W V : World} {v : Value} (h : Z15 N c done ys W) (hi : c ≤ i) (hi2 : i < 2 * c) (hd : done i = true) (hd2 : done (i - c) = true) (e : ys i = bptr g) (hs : ys (i - c) = .agg #[x0, x1, x2, x3, x4, x5, x6]) (hN : N ≤ g)
    (hA : At V g 33 #[x0, x1, x2, x3, x4, x5, x6]) (hg : W.grownBy V (some g)) : Z15 N c (Sched.mark done (i + c)) (Sched.upd ys (i + c) v) V := by
  refine ⟨fun j h1 h2 h3 => ?_, fun j h1 h2 h3 => ?_, fun j k h1 h2 h3 h4 h5 => ?_⟩
  · by_cases hj : j = i
    · subst hj; exact ⟨mark_of hd, mark_of hd2⟩
    · rw [mark_ne (by omega)] at h3
      exact ⟨mark_of (h.ord j h1 h2 h3).1, mark_of (h.ord j h1 h2 h3).2⟩
  · rw [mark_ne (by omega)] at h3
    by_cases hj : j = i
    · subst hj
      exact ⟨g, x0, x1, x2, x3, x4, x5, x6, (by rw [upd_ne (by omega)]; exact e), hN, hA, fun _ => by rw [upd_ne (by omega)]; exact hs⟩
    · obtain ⟨g', z0, z1, z2, z3, z4, z5, z6, e', hN', hA', hs'⟩ := h.box j h1 h2 h3
      have hne : g' ≠ g := by
        rintro rfl
        rcases Nat.lt_or_gt_of_ne hj with hlt | hlt
        · exact h.ne j i h1 hlt hi2 h3 hd (e'.trans e.symm)
        · exact h.ne i j hi hlt h2 hd h3 (e.trans e'.symm)
      refine ⟨g', z0, z1, z2, z3, z4, z5, z6, (by rw [upd_ne (by omega)]; exact e'), hN', grownAt hA' hg (fun e => hne (Option.some.inj e)), fun h6 => ?_⟩
      rw [mark_ne (by omega)] at h6
      rw [upd_ne (by omega)]
      exact hs' h6
  · rw [mark_ne (by omega)] at h4 h5
    rw [upd_ne (by omega), upd_ne (by omega)]
    exact h.ne j k h1 h2 h3 h4 h5

set_option maxRecDepth 100000 in
set_option maxHeartbeats 2000000 in
theorem known_any (w : World) (hg : Hd w) :
    Calls Tryd.prog 6 #[] w fun e w' => e = .returned (.bool true) ∧ Below w.heap.size w w' := by
  have hpos := hg.pos
  have hg' := Lib.hid hg
  clear hg
  obtain ⟨n1, hn1⟩ : ∃ n, w.heap.size = n := ⟨_, rfl⟩
  have hB0 : Below n1 w w := Below.refl _ _
  go_enter Tryd.func6, Tryd.ntmps6
  go_wp2_with fail
  refine (least_any _).mono ?_
  rintro e w1 ⟨rfl, hl1, hs, hb⟩
  rw [hn1] at hl1 hs hb ⊢
  have hmk := run_madeRqs
  obtain ⟨i0, hi, hz0, hz1, hz2⟩ := info_parts info_int
  go_wp2_with fail
  go_loopw [2] (fun v wr => ∃ k : Nat, v = .int .i64 k ∧ k ≤ 64 ∧ KnownAt wr n1 k ∧ Below n1 w wr) (fun v _ => 64 - (intOf v).toNat)
  case atStart =>
    have hb5 : Below w1.heap.size w1 ((w1.alloc (.cells #[.slice (some ⟨n1 + 4 + 1, 0, none⟩) 64 64, .slice (some ⟨n1 + 2, 0, none⟩) 1 1, .slice none 0 0, .int .i64 1, .int .i64 1, .int .i64 0, .slice (some ⟨n1 + 3, 0, none⟩) 1 1] 33)).alloc (.cells madeRqs 66)) := ((Below.refl _ _).alloc (Nat.le_refl _) _).alloc (by simp) _
    have hl := hl1.keep hb5 (by omega)
    exact ⟨0, rfl, Nat.zero_le _, ⟨(At.new_ _ _ _ (by omega)).alloc _, hl.veh, hl.draw, ⟨madeRqs, At.new_ _ _ _ (by simp; omega), size_madeRqs, fun j hj => absurd hj (by omega)⟩, ⟨_, hl.car, World.ownsRow_nil _ _ _ _⟩⟩, (hB0.trans (hb.mono (by omega))).trans (hb5.mono (by omega))⟩
  case round =>
    obtain ⟨k, rfl, hk, hS, hbw⟩ := hrel
    have hS' := Lib.hid hS
    have p0 := hS.box.cell 0
    have p1 := hS.box.cell 1
    simp at p0 p1
    obtain ⟨cs, hcs, hsz, hrow⟩ := hS.rqs
    clear hl1 hs hb hmk hS
    by_cases hlt : k < 64
    · go_upto_region 6 with fail
      have kO := fun d os => Calls.regrown_of (one_any (grow (redrawn wr d) os))
      have kp0 := cell_regrown p0
      refine Tail.wp_region_below_tail 4 (by kernel_rfl) (by kernel_rfl) (by kernel_rfl) ?_
      simp only [List.take_succ_cons, List.take_zero, List.drop_succ_cons, List.drop_zero]
      repeat (go_big_quiet_step (with_reducible exact kO _ _))
      refine wpQuiet_nil ?_
      intro _ hw'
      obtain ⟨⟨dq, osq⟩, hw''⟩ := hw'
      subst hw''
      have hB2 := below_regrown wr dq osq
      generalize grow (redrawn wr dq) osq = w2 at *
      clear kO kp0 p0 p1
      have hc2 := hcs.keep hB2 hcs.inside
      obtain ⟨o0, e0⟩ : ∃ v, cs[k * 10]? = some v := ⟨_, Array.getElem?_eq_getElem (by omega)⟩
      have d0 := (hc2.cell (k * 10)).trans e0
      have f0 := hc2.free (k * 10)
      obtain ⟨o1, e1⟩ : ∃ v, cs[k * 10 + 1]? = some v := ⟨_, Array.getElem?_eq_getElem (by omega)⟩
      have d1 := (hc2.cell (k * 10 + 1)).trans e1
      have f1 := hc2.free (k * 10 + 1)
      obtain ⟨o2, e2⟩ : ∃ v, cs[k * 10 + 2]? = some v := ⟨_, Array.getElem?_eq_getElem (by omega)⟩
      have d2 := (hc2.cell (k * 10 + 2)).trans e2
      have f2 := hc2.free (k * 10 + 2)
      obtain ⟨o3, e3⟩ : ∃ v, cs[k * 10 + 3]? = some v := ⟨_, Array.getElem?_eq_getElem (by omega)⟩
      have d3 := (hc2.cell (k * 10 + 3)).trans e3
      have f3 := hc2.free (k * 10 + 3)
      obtain ⟨o4, e4⟩ : ∃ v, cs[k * 10 + 4]? = some v := ⟨_, Array.getElem?_eq_getElem (by omega)⟩
      have d4 := (hc2.cell (k * 10 + 4)).trans e4
      have f4 := hc2.free (k * 10 + 4)
      obtain ⟨o5, e5⟩ : ∃ v, cs[k * 10 + 5]? = some v := ⟨_, Array.getElem?_eq_getElem (by omega)⟩
      have d5 := (hc2.cell (k * 10 + 5)).trans e5
      have f5 := hc2.free (k * 10 + 5)
      obtain ⟨o6, e6⟩ : ∃ v, cs[k * 10 + 6]? = some v := ⟨_, Array.getElem?_eq_getElem (by omega)⟩
      have d6 := (hc2.cell (k * 10 + 6)).trans e6
      have f6 := hc2.free (k * 10 + 6)
      obtain ⟨o7, e7⟩ : ∃ v, cs[k * 10 + 7]? = some v := ⟨_, Array.getElem?_eq_getElem (by omega)⟩
      have d7 := (hc2.cell (k * 10 + 7)).trans e7
      have f7 := hc2.free (k * 10 + 7)
      obtain ⟨o8, e8⟩ : ∃ v, cs[k * 10 + 8]? = some v := ⟨_, Array.getElem?_eq_getElem (by omega)⟩
      have d8 := (hc2.cell (k * 10 + 8)).trans e8
      have f8 := hc2.free (k * 10 + 8)
      obtain ⟨o9, e9⟩ : ∃ v, cs[k * 10 + 9]? = some v := ⟨_, Array.getElem?_eq_getElem (by omega)⟩
      have d9 := (hc2.cell (k * 10 + 9)).trans e9
      have f9 := hc2.free (k * 10 + 9)
      go_wp2_with fail
      clear d0 d1 d2 d3 d4 d5 d6 d7 d8 d9 f0 f1 f2 f3 f4 f5 f6 f7 f8 f9 e0 e1 e2 e3 e4 e5 e6 e7 e8 e9 o0 o1 o2 o3 o4 o5 o6 o7 o8 o9
      obtain ⟨own, hcar, hown⟩ := hS'.out.own
      obtain ⟨w3, hw3⟩ : ∃ w3, ((((((((((w2.setCell ⟨n1 + 4 + 1, k * 10, none⟩ (.int .i64 0)).setCell ⟨n1 + 4 + 1, k * 10 + 1, none⟩ (.int .i64 0)).setCell ⟨n1 + 4 + 1, k * 10 + 2, none⟩ (.int .i64 1)).setCell ⟨n1 + 4 + 1, k * 10 + 3, none⟩ (.int .i64 0)).setCell ⟨n1 + 4 + 1, k * 10 + 4, none⟩ (.int .i64 0)).setCell ⟨n1 + 4 + 1, k * 10 + 5, none⟩ (.int .i64 50)).setCell ⟨n1 + 4 + 1, k * 10 + 6, none⟩ (.int .i64 0)).setCell ⟨n1 + 4 + 1, k * 10 + 7, none⟩ (.int .i64 50)).setCell ⟨n1 + 4 + 1, k * 10 + 8, none⟩ (.int .i64 1)).setCell ⟨n1 + 4 + 1, k * 10 + 9, none⟩ (.int .i64 0)) = w3 := ⟨_, rfl⟩
      have hM : MidAt w3 n1 k own ∧ w3.ownsRow (n1 + 6) 3 1 own k (intsV ((List.range k).map fun j : Nat => 63 - (j : Int))) ∧ RowKit.Below n1 w w3 := by
        have h23 : w2.grownBy w3 (some (n1 + 4 + 1)) := by rw [← hw3]; exact (((((((((grown_put _ _ _ _).trans (grown_put _ _ _ _)).trans (grown_put _ _ _ _)).trans (grown_put _ _ _ _)).trans (grown_put _ _ _ _)).trans (grown_put _ _ _ _)).trans (grown_put _ _ _ _)).trans (grown_put _ _ _ _)).trans (grown_put _ _ _ _)).trans (grown_put _ _ _ _)
        have hS2 := hS'.out
        have hb2 : wr.grownBy w2 none := Below.grow hB2
        have ho2 := hown.kept hb2 (by have := own_ne hown (g := n1) (by omega); rcases hh : own.ownBlock with _ | b <;> simp)
        refine ⟨⟨grownAt (hS2.box.keep hB2 hS2.box.inside) h23 (by simp), grownAt (hS2.veh.keep hB2 hS2.veh.inside) h23 (by simp), grownAt (hS2.draw.keep hB2 hS2.draw.inside) h23 (by simp), ⟨putRq cs k, ?_, (putRq_size cs k).trans hsz, putRq_row hsz hlt hrow⟩, grownAt (hcar.keep hB2 hcar.inside) h23 (by simp)⟩, ho2.kept h23 (own_ne ho2 (by omega)), ?_⟩
        · rw [← hw3]; exact putRq_at k hc2
        · exact (hbw.trans (hB2.mono (by have := hbw.size; omega))).grown h23 (by have := hbw.size; have := hB2.size; omega) (fun b e => by cases e; omega)
      obtain ⟨hM, ho3, hb3⟩ := hM
      clear hown hcar hc2 hcs hB2
      rw [hw3]
      clear hw3
      have hsz6 : n1 + 6 ≤ w3.heap.size := by
        obtain ⟨_, h6, _⟩ := hM.rqs
        have := h6.inside
        omega
      have hrow6 : ∀ b, own.ownBlock = some b → n1 + 6 ≤ b := fun b e => (ho3.lt b e).1
      refine Sched.wp_region_sched 11 (fun W W' => W.grownBy W' own.ownBlock) (VK w3.heap.size n1 k own) (ZK n1 k own) (by kernel_rfl) (by kernel_rfl) (by kernel_rfl) (fun h1 h2 => h1.trans h2) (fun h1 h2 => VK.keep (fun b e => (ho3.lt b e).2) h1 h2) ⟨rfl, rfl, rfl, Nat.le_refl _, fun _ _ _ => rfl⟩ (fun ys => ⟨fun _ => ho3, fun h => by cases h⟩) (Sched.StepsA.steps (by kernel_rfl) ?hS) ?hQ
      case hS =>
       simp only [List.take_succ_cons, List.take_zero]
       refine ⟨?_, ?_, ?_, ?_, ?_, ?_, ?_, ?_, ?_, ?_, ?_, trivial⟩
       · intro ys done W aa hE hn hF hD hZ hG hO
         replace hE : w3.grownBy W own.ownBlock := hE
         have hM' := hM.grown hE hrow6
         have o1 := hO 1 (by kernel_rfl)
         replace o1 : aa.tmps[1]? = some (.pointer (some ⟨n1 + 4, 0, none⟩)) := o1
         go_wp2_with fail
         exact ⟨_, rfl, grown_refl _ _, rfl, hZ.light (by decide)⟩
       · intro ys done W aa hE hn hF hD hZ hG hO
         replace hE : w3.grownBy W own.ownBlock := hE
         have hM' := hM.grown hE hrow6
         have v0 := hF 0 (by decide) (hD 0 (by kernel_rfl))
         have g0 := hG 0 24 rfl (Nat.le_of_ble_eq_true rfl)
         simp only [VK] at v0
         rw [v0] at g0
         have p1 := hM'.box.cell 1
         simp at p1
         go_wp2_with fail
         exact ⟨_, rfl, grown_refl _ _, rfl, hZ.light (by decide)⟩
       · intro ys done W aa hE hn hF hD hZ hG hO
         replace hE : w3.grownBy W own.ownBlock := hE
         have hM' := hM.grown hE hrow6
         have o1 := hO 1 (by kernel_rfl)
         replace o1 : aa.tmps[1]? = some (.pointer (some ⟨n1 + 4, 0, none⟩)) := o1
         go_wp2_with fail
         exact ⟨_, rfl, grown_refl _ _, rfl, hZ.light (by decide)⟩
       · intro ys done W aa hE hn hF hD hZ hG hO
         replace hE : w3.grownBy W own.ownBlock := hE
         have hM' := hM.grown hE hrow6
         have v2 := hF 2 (by decide) (hD 2 (by kernel_rfl))
         have g2 := hG 2 26 rfl (Nat.le_of_ble_eq_true rfl)
         simp only [VK] at v2
         rw [v2] at g2
         have p1 := hM'.box.cell 1
         simp at p1
         go_wp2_with fail
         exact ⟨_, rfl, grown_refl _ _, rfl, hZ.light (by decide)⟩
       · intro ys done W aa hE hn hF hD hZ hG hO
         replace hE : w3.grownBy W own.ownBlock := hE
         have hM' := hM.grown hE hrow6
         have v3 := hF 3 (by decide) (hD 3 (by kernel_rfl))
         have g3 := hG 3 27 rfl (Nat.le_of_ble_eq_true rfl)
         simp only [VK] at v3
         rw [v3] at g3
         go_wp2_with fail
         exact ⟨_, rfl, grown_refl _ _, rfl, hZ.light (by decide)⟩
       · intro ys done W aa hE hn hF hD hZ hG hO
         replace hE : w3.grownBy W own.ownBlock := hE
         have hM' := hM.grown hE hrow6
         have v4 := hF 4 (by decide) (hD 4 (by kernel_rfl))
         have g4 := hG 4 28 rfl (Nat.le_of_ble_eq_true rfl)
         simp only [VK] at v4
         rw [v4] at g4
         go_wp2_with fail
         exact ⟨_, rfl, grown_refl _ _, rfl, hZ.light (by decide)⟩
       · intro ys done W aa hE hn hF hD hZ hG hO
         replace hE : w3.grownBy W own.ownBlock := hE
         have hM' := hM.grown hE hrow6
         have v5 := hF 5 (by decide) (hD 5 (by kernel_rfl))
         have g5 := hG 5 29 rfl (Nat.le_of_ble_eq_true rfl)
         simp only [VK] at v5
         rw [v5] at g5
         have q1 := hM'.car.cell 1
         simp at q1
         go_wp2_with fail
         exact ⟨_, rfl, grown_refl _ _, rfl, hZ.light (by decide)⟩
       · intro ys done W aa hE hn hF hD hZ hG hO
         replace hE : w3.grownBy W own.ownBlock := hE
         have hM' := hM.grown hE hrow6
         have o2 := hO 2 (by kernel_rfl)
         replace o2 : aa.tmps[2]? = some (.int .i64 (k : Int)) := o2
         go_wp2_with fail
         exact ⟨_, rfl, grown_refl _ _, rfl, hZ.light (by decide)⟩
       · intro ys done W aa hE hn hF hD hZ hG hO
         replace hE : w3.grownBy W own.ownBlock := hE
         have hM' := hM.grown hE hrow6
         have v7 := hF 7 (by decide) (hD 7 (by kernel_rfl))
         have g7 := hG 7 31 rfl (Nat.le_of_ble_eq_true rfl)
         simp only [VK] at v7
         rw [v7] at g7
         go_wp2_with fail
         exact ⟨_, rfl, grown_refl _ _, rfl, hZ.light (by decide)⟩
       · intro ys done W aa hE hn hF hD hZ hG hO
         replace hE : w3.grownBy W own.ownBlock := hE
         have hM' := hM.grown hE hrow6
         have v8 := hF 8 (by decide) (hD 8 (by kernel_rfl))
         have g8 := hG 8 32 rfl (Nat.le_of_ble_eq_true rfl)
         simp only [VK] at v8
         rw [v8] at g8
         go_wp2_with fail
         exact ⟨_, rfl, World.grownBy_alloc _ _ _, ⟨_, rfl, hE.size, At.new _ _ _⟩, (hZ.alloc _).light (by decide)⟩
       · intro ys done W aa hE hn hF hD hZ hG hO
         replace hE : w3.grownBy W own.ownBlock := hE
         have hM' := hM.grown hE hrow6
         have v6 := hF 6 (by decide) (hD 6 (by kernel_rfl))
         have g6 := hG 6 30 rfl (Nat.le_of_ble_eq_true rfl)
         simp only [VK] at v6
         rw [v6] at g6
         have v9 := hF 9 (by decide) (hD 9 (by kernel_rfl))
         have g9 := hG 9 33 rfl (Nat.le_of_ble_eq_true rfl)
         obtain ⟨g, rfl9, hg, hgA⟩ := v9
         rw [rfl9] at g9
         have hown := hZ.1 hn
         refine (wpList_append_own _ rfl _ _ 46 rfl (n1 + 6) 3 i0 (.int .i64 0) 1 8 Tryd.underlying46 hi hz0 hz1 hz2 rfl (by decide) _ _ _ (show aa.tmps.getD 30 undef = own by simp [g6]) hown ⟨g, 0, none⟩ 1 1 [.int .i64 (63 - (k : Int))] (show aa.tmps.getD 33 undef = _ by simp [g9]) rfl (World.news_of_block (cs := #[.int .i64 (63 - (k : Int))]) (t := 3) (fr := (0, 0)) hgA) (by simp [Value.oneCell']) (by unfold maxLen; omega) (by omega) (by have := hE.size; omega) ?_)
         intro v7 w7 hown7 hgrow7 hnil7
         refine wpList_nil ?_
         refine ⟨v7, rfl, hgrow7, trivial, ⟨fun h => by simp [Sched.mark] at h, fun _ => ?_⟩⟩
         rw [show Sched.upd ys 10 v7 10 = v7 by simp [Sched.upd], List.range_succ, List.map_append, List.map_singleton, intsV_snoc]
         exact hown7
      case hQ =>
       intro ys W hE hF hZ
       obtain ⟨done, hd, hZ⟩ := hZ
       have ho := hZ.2 (hd 10 (by decide))
       have hM' := hM.grown hE hrow6
       have hb4 := hb3.grown hE (by omega) (fun b e => by have := hrow6 b e; omega)
       have v1 := hF 1 (by decide)
       simp only [VK] at v1
       simp only [List.take_succ_cons, List.take_zero, List.drop_succ_cons, List.drop_zero, Sched.fill, v1]
       have ho' := ho
       rcases ho.2 with ⟨_, h0⟩ | ⟨gO, capO, cur, h10, hbO, hgO, hn1O, hn2O, _, _⟩
       · omega
       rw [h10] at ho' ⊢
       have q1 := hM'.car.cell 1
       simp at q1
       have q1f := hM'.car.free 1
       have hm0 : MidAt (W.setCell ⟨n1 + 2, 1, none⟩ (.slice (some ⟨gO, 0, none⟩) (k + 1) capO)) n1 k (.slice (some ⟨gO, 0, none⟩) (k + 1) capO) := by
         obtain ⟨cs', r1, r2, r3⟩ := hM'.rqs
         exact ⟨hM'.box.far (by omega) _ _, hM'.veh.far (by omega) _ _, hM'.draw.far (by omega) _ _, ⟨cs', r1.far (by omega) _ _, r2, r3⟩, by simpa using hM'.car.put 1 (.slice (some ⟨gO, 0, none⟩) (k + 1) capO)⟩
       have ho1 := ho'.kept (grown_put W (n1 + 2) 1 (.slice (some ⟨gO, 0, none⟩) (k + 1) capO)) (own_ne ho' (by omega))
       have hb5 := hb4.grown (grown_put W (n1 + 2) 1 (.slice (some ⟨gO, 0, none⟩) (k + 1) capO)) (by have := hb4.size; omega) (fun b e => by cases e; omega)
       clear hF hZ hd ho hM' ho' hb4 hE
       go_wp2_with fail
       go_roundw
       case rel => exact ⟨k + 1, by go_num, hlt, ⟨hm0.box, hm0.veh, hm0.draw, hm0.rqs, ⟨_, hm0.car, ho1⟩⟩, hb5⟩
       case measure => simp [intOf]; omega
    · obtain rfl : k = 64 := by omega
      clear hrow hcs hsz p0 p1
      simp only [show ((64 : Nat) : Int) = 64 from rfl]
      have hS := hS'.out
      have p3 := hS.box.cell 3
      have p4 := hS.box.cell 4
      have p5 := hS.box.cell 5
      simp at p3 p4 p5
      have f3 := hS.box.free 3
      have f4 := hS.box.free 4
      have f5 := hS.box.free 5
      clear hS
      go_upto_region 9 with fail
      clear p3 p4 p5 f3 f4 f5
      obtain ⟨w5, hw5⟩ : ∃ w5, ((wr.setCell ⟨n1 + 4, 3, none⟩ (.int .i64 64)).setCell ⟨n1 + 4, 4, none⟩ (.int .i64 64)).setCell ⟨n1 + 4, 5, none⟩ (.int .i64 1) = w5 := ⟨_, rfl⟩
      rw [hw5]
      have h5 : wr.grownBy w5 (some (n1 + 4)) := by rw [← hw5]; exact ((grown_put _ _ _ _).trans (grown_put _ _ _ _)).trans (grown_put _ _ _ _)
      have hS := hS'.out
      have hbox5 : At w5 (n1 + 4) 33 #[.slice (some ⟨n1 + 4 + 1, 0, none⟩) 64 64, .slice (some ⟨n1 + 2, 0, none⟩) 1 1, .slice none 0 0, .int .i64 64, .int .i64 64, .int .i64 1, .slice (some ⟨n1 + 3, 0, none⟩) 1 1] := by
        rw [← hw5]; simpa using ((hS.box.put 3 (.int .i64 64)).put 4 (.int .i64 64)).put 5 (.int .i64 1)
      have hveh5 := grownAt hS.veh h5 (by simp)
      have hdraw5 := grownAt hS.draw h5 (by simp)
      obtain ⟨cs, r1, r2, r3⟩ := hS.rqs
      have hrq5 := grownAt r1 h5 (by simp)
      obtain ⟨own, c1, c2⟩ := hS.own
      have hcar5 := grownAt c1 h5 (by simp)
      have hown5 := c2.kept h5 (own_ne c2 (by omega))
      have hb5 := hbw.grown h5 (by have := hbw.size; omega) (fun b e => by cases e; omega)
      clear hS hS' hw5 h5 r1 c1 c2 hbw hi hz0 hz1 hz2
      obtain ⟨iL, hi, hz0, hz1, hz2⟩ := info_parts info_lot
      have hst := Lib.hid (And.intro hveh5 (And.intro hdraw5 (And.intro hrq5 (And.intro hcar5 (And.intro hown5 hb5)))))
      have hs5 : n1 + 6 ≤ w5.heap.size := by have := hrq5.inside; omega
      clear hveh5 hdraw5 hrq5 hcar5 hown5 hb5
      go_wp2_with fail
      go_loopw [3] (fun v wr => ∃ (k : Nat) (lv : Value), v = .int .i64 k ∧ k ≤ 16 ∧ w5.grownBy wr (some (n1 + 4)) ∧ At wr (n1 + 4) 33 #[.slice (some ⟨n1 + 4 + 1, 0, none⟩) 64 64, .slice (some ⟨n1 + 2, 0, none⟩) 1 1, lv, .int .i64 64, .int .i64 64, .int .i64 1, .slice (some ⟨n1 + 3, 0, none⟩) 1 1] ∧ wr.ownsRow w5.heap.size 59 2 lv k (lotsV k)) (fun v _ => 16 - (intOf v).toNat)
      case atStart => exact ⟨0, _, rfl, Nat.zero_le _, grown_refl _ _, hbox5, World.ownsRow_nil _ _ _ _⟩
      case round =>
        clear hbox5
        obtain ⟨k, lv, rfl, hk, hg, hbx, hown⟩ := hrel
        have p2 := hbx.cell 2
        simp at p2
        have f2 := hbx.free 2
        by_cases hlt : k < 16
        · have hgs := hg.size
          go_upto_region 12 with fail
          go_wp2_with (at_builtin; refine wpList_append_own _ rfl _ _ 30 rfl w5.heap.size 59 iL (.agg #[.int .i64 0, .int .i64 0]) 2 16 (by kernel_rfl) hi hz0 hz1 hz2 rfl (by decide) _ _ _ rfl (hown.alloc _) ⟨wr.heap.size, 0, none⟩ 1 1 [.int .i64 (k : Int), .int .i64 16777216] rfl rfl (World.news_of_block (cs := #[.int .i64 (k : Int), .int .i64 16777216]) (t := 59) (fr := (0, 0)) (heap_alloc_new wr _)) (by simp [Value.oneCell']) (by unfold maxLen; omega) (by omega) (by simp; omega) ?_; intro v7 w7 hown7 hgrow7 hnil7; have hbx7 := grownAt (hbx.alloc _) hgrow7 (fun e => by have := (hown.lt _ e.symm).1; omega); have q2 := hbx7.cell 2; simp at q2; have qf2 := hbx7.free 2; obtain ⟨g7, cap7, h7, hg7⟩ := own_open hown7; subst h7)
          have hg2 : w5.grownBy w7 (some (n1 + 4)) := grown_own (hg.trans (World.grownBy_alloc _ _ _)) hgrow7 (fun b e => (hown.lt b e).1)
          have hg3 := hg2.trans (grown_put w7 (n1 + 4) 2 (.slice (some ⟨g7, 0, none⟩) (k + 1) cap7))
          have hown8 := hown7.kept (grown_put w7 (n1 + 4) 2 (.slice (some ⟨g7, 0, none⟩) (k + 1) cap7)) (own_ne hown7 (by omega))
          have hbx8 := hbx7.put 2 (.slice (some ⟨g7, 0, none⟩) (k + 1) cap7)
          simp at hbx8
          rw [← lotsV_snoc] at hown8
          clear hown7 hgrow7 hbx7 hbx q2 qf2 p2 f2 hown hg hg2
          go_roundw
          case rel => exact ⟨k + 1, _, by go_num, hlt, hg3, hbx8, hown8⟩
          case measure => simp [intOf]; omega
        · obtain rfl : k = 16 := by omega
          simp only [show ((16 : Nat) : Int) = 16 from rfl]
          have hg' := hg
          obtain ⟨hveh5, hdraw5, hrq5, hcar5, hown5, hb5⟩ := hst.out
          have hveh := grownAt hveh5 hg (by simp)
          have hdraw := grownAt hdraw5 hg (by simp)
          have hrq := grownAt hrq5 hg (by simp)
          have hcar := grownAt hcar5 hg (by simp)
          have hownI := hown5.kept hg (own_ne hown5 (by omega))
          have hbw := hb5.grown hg (by omega) (fun b e => by cases e; omega)
          have hOwn : RowB wr.heap.size wr own 1 (kO.map inV) := row_of_ints (xs := kO) hownI rfl
          have hLot : RowB wr.heap.size wr lv 2 (kL.map ltV) := RowB.of_owns (rows := kL.map ltV) hown rfl (by decide +kernel)
          have hScene : SceneAt wr.heap.size wr (.slice (some ⟨n1 + 4 + 1, 0, none⟩) 64 64) (.slice (some ⟨n1 + 2, 0, none⟩) 1 1) lv (.slice (some ⟨n1 + 3, 0, none⟩) 1 1) [(.slice (some ⟨n1 + 1, 0, none⟩) 1 1, own)] knownS :=
            ⟨RowB.of_at (rows := (kQ 64).map rqV) (cap := 64) hrq hrq.inside (rows10 64) (cs_all r3) (Nat.le_refl _) (by unfold maxLen; decide), CarsAt.one (RowB.one hcar hcar.inside rfl) (RowB.one hveh hveh.inside rfl) hOwn, hLot, draws1 _⟩
          obtain ⟨gL, capL, hlv, hgL⟩ := own_open (k := 15) hown
          subst hlv
          clear hveh5 hdraw5 hrq5 hcar5 hown5 hb5 hst hOwn hg' hg hi hz0 hz1 hz2 p2 f2
          have hk := Lib.hid (And.intro hveh (And.intro hdraw (And.intro hrq (And.intro hcar (And.intro hownI (And.intro hown (And.intro hLot hbw)))))))
          have hbx' := Lib.hid hbx
          have hSc := Lib.hid hScene
          clear hveh hdraw hrq hcar hownI hown hLot hbw
          have p0 := hbx.cell 0
          have p1 := hbx.cell 1
          have p2 := hbx.cell 2
          have p3 := hbx.cell 3
          have p4 := hbx.cell 4
          have p5 := hbx.cell 5
          have p6 := hbx.cell 6
          simp at p0 p1 p2 p3 p4 p5 p6
          clear hbx hScene
          go_wp2_with fail
          refine (Check_any knownS known_fair _ _ _ _ _ _ hSc.out).mono ?_
          rintro e W0 ⟨⟨u, rfl, hu⟩, hbW⟩
          rw [known_f] at hu
          have hu' : u = .nilIface := by
            rcases hu with ⟨_, h⟩ | ⟨h, _⟩
            · exact h
            · exact absurd rfl h
          subst hu'
          clear hu p0 p1 p2 p3 p4 p5 p6
          obtain ⟨N, hN1, hN2⟩ : ∃ N, N ≤ W0.heap.size ∧ W0.heap.size ≤ N := ⟨_, Nat.le_refl _, Nat.le_refl _⟩
          have hboxK : ∀ W, Below N W0 W → At W (n1 + 4) 33 #[.slice (some ⟨n1 + 4 + 1, 0, none⟩) 64 64, .slice (some ⟨n1 + 2, 0, none⟩) 1 1, .slice (some ⟨gL, 0, none⟩) 16 capL, .int .i64 64, .int .i64 64, .int .i64 1, .slice (some ⟨n1 + 3, 0, none⟩) 1 1] := fun W hb => by
            have h1 := hbx'.out.keep hbW hbx'.out.inside
            exact h1.keep hb (Nat.lt_of_lt_of_le h1.inside hN2)
          go_upto_region 15 with fail
          refine Sched.wp_region_sched 14 (Ext15 N) (V15 N (.agg #[.slice (some ⟨n1 + 4 + 1, 0, none⟩) 64 64, .slice (some ⟨n1 + 2, 0, none⟩) 1 1, .slice (some ⟨gL, 0, none⟩) 16 capL, .int .i64 64, .int .i64 64, .int .i64 1, .slice (some ⟨n1 + 3, 0, none⟩) 1 1])) (Z15 N 5) (by kernel_rfl) (by kernel_rfl) (by kernel_rfl) (fun h1 h2 => h1.trans h2) (fun h1 h2 => V15.keep h1 h2) ⟨(Below.refl _ _).drew, fun g t cs h _ => h⟩ (fun ys => Z15.start _ _ _ _) (Sched.StepsA.steps (by kernel_rfl) ?hS) ?hQ
          case hS =>
           simp only [List.take_succ_cons, List.take_zero]
           refine ⟨?_, ?_, ?_, ?_, ?_, ?_, ?_, ?_, ?_, ?_, ?_, ?_, ?_, ?_, trivial⟩
           · intro ys done W aa hE hn hF hD hZ hG hO
             replace hE : Ext15 N W0 W := hE
             have hsN : N ≤ W.heap.size := Nat.le_trans hN1 hE.1.size
             have o1 := hO 1 (by kernel_rfl)
             replace o1 : aa.tmps[1]? = some (.pointer (some ⟨n1 + 4, 0, none⟩)) := o1
             have hbx := hboxK W hE.1
             have p0 := hbx.cell 0
             have p1 := hbx.cell 1
             have p2 := hbx.cell 2
             have p3 := hbx.cell 3
             have p4 := hbx.cell 4
             have p5 := hbx.cell 5
             have p6 := hbx.cell 6
             simp at p0 p1 p2 p3 p4 p5 p6
             go_wp2_with fail
             exact ⟨_, rfl, Ext15.below (Below.refl _ _) hsN, rfl, hZ.light (by decide) hn (fun _ _ h => h)⟩
           · intro ys done W aa hE hn hF hD hZ hG hO
             replace hE : Ext15 N W0 W := hE
             have hsN : N ≤ W.heap.size := Nat.le_trans hN1 hE.1.size
             have o1 := hO 1 (by kernel_rfl)
             replace o1 : aa.tmps[1]? = some (.pointer (some ⟨n1 + 4, 0, none⟩)) := o1
             have hbx := hboxK W hE.1
             have p0 := hbx.cell 0
             have p1 := hbx.cell 1
             have p2 := hbx.cell 2
             have p3 := hbx.cell 3
             have p4 := hbx.cell 4
             have p5 := hbx.cell 5
             have p6 := hbx.cell 6
             simp at p0 p1 p2 p3 p4 p5 p6
             go_wp2_with fail
             exact ⟨_, rfl, Ext15.below (Below.refl _ _) hsN, rfl, hZ.light (by decide) hn (fun _ _ h => h)⟩
           · intro ys done W aa hE hn hF hD hZ hG hO
             replace hE : Ext15 N W0 W := hE
             have hsN : N ≤ W.heap.size := Nat.le_trans hN1 hE.1.size
             go_wp2_with fail
             refine (least_any _).mono ?_
             rintro e W' ⟨rfl, hl, hs, hb⟩
             go_wp2_with fail
             exact ⟨_, rfl, Ext15.below hb hsN, ⟨_, rfl, hl, hsN, by omega⟩, hZ.light (by decide) hn (fun _ _ h => h.keep hb h.inside)⟩
           · intro ys done W aa hE hn hF hD hZ hG hO
             replace hE : Ext15 N W0 W := hE
             have hsN : N ≤ W.heap.size := Nat.le_trans hN1 hE.1.size
             go_wp2_with fail
             refine (least_any _).mono ?_
             rintro e W' ⟨rfl, hl, hs, hb⟩
             go_wp2_with fail
             exact ⟨_, rfl, Ext15.below hb hsN, ⟨_, rfl, hl, hsN, by omega⟩, hZ.light (by decide) hn (fun _ _ h => h.keep hb h.inside)⟩
           · intro ys done W aa hE hn hF hD hZ hG hO
             replace hE : Ext15 N W0 W := hE
             have hsN : N ≤ W.heap.size := Nat.le_trans hN1 hE.1.size
             have o1 := hO 1 (by kernel_rfl)
             replace o1 : aa.tmps[1]? = some (.pointer (some ⟨n1 + 4, 0, none⟩)) := o1
             have hbx := hboxK W hE.1
             have p0 := hbx.cell 0
             have p1 := hbx.cell 1
             have p2 := hbx.cell 2
             have p3 := hbx.cell 3
             have p4 := hbx.cell 4
             have p5 := hbx.cell 5
             have p6 := hbx.cell 6
             simp at p0 p1 p2 p3 p4 p5 p6
             go_wp2_with fail
             exact ⟨_, rfl, Ext15.below (Below.refl _ _) hsN, rfl, hZ.light (by decide) hn (fun _ _ h => h)⟩
           · intro ys done W aa hE hn hF hD hZ hG hO
             replace hE : Ext15 N W0 W := hE
             have hsN : N ≤ W.heap.size := Nat.le_trans hN1 hE.1.size
             go_wp2_with fail
             exact ⟨_, rfl, Ext15.below ((Below.refl _ _).alloc (Nat.le_refl _) _) hsN, trivial, hZ.new (by decide) (by decide) hn hsN⟩
           · intro ys done W aa hE hn hF hD hZ hG hO
             replace hE : Ext15 N W0 W := hE
             have hsN : N ≤ W.heap.size := Nat.le_trans hN1 hE.1.size
             go_wp2_with fail
             exact ⟨_, rfl, Ext15.below ((Below.refl _ _).alloc (Nat.le_refl _) _) hsN, trivial, hZ.new (by decide) (by decide) hn hsN⟩
           · intro ys done W aa hE hn hF hD hZ hG hO
             replace hE : Ext15 N W0 W := hE
             have hsN : N ≤ W.heap.size := Nat.le_trans hN1 hE.1.size
             go_wp2_with fail
             exact ⟨_, rfl, Ext15.below ((Below.refl _ _).alloc (Nat.le_refl _) _) hsN, trivial, hZ.new (by decide) (by decide) hn hsN⟩
           · intro ys done W aa hE hn hF hD hZ hG hO
             replace hE : Ext15 N W0 W := hE
             have hsN : N ≤ W.heap.size := Nat.le_trans hN1 hE.1.size
             go_wp2_with fail
             exact ⟨_, rfl, Ext15.below ((Below.refl _ _).alloc (Nat.le_refl _) _) hsN, trivial, hZ.new (by decide) (by decide) hn hsN⟩
           · intro ys done W aa hE hn hF hD hZ hG hO
             replace hE : Ext15 N W0 W := hE
             have hsN : N ≤ W.heap.size := Nat.le_trans hN1 hE.1.size
             go_wp2_with fail
             exact ⟨_, rfl, Ext15.below ((Below.refl _ _).alloc (Nat.le_refl _) _) hsN, trivial, hZ.new (by decide) (by decide) hn hsN⟩
           · intro ys done W aa hE hn hF hD hZ hG hO
             replace hE : Ext15 N W0 W := hE
             have hsN : N ≤ W.heap.size := Nat.le_trans hN1 hE.1.size
             have d1 := hD 5 (by kernel_rfl)
             have d2 := hD 0 (by kernel_rfl)
             obtain ⟨g, x0, x1, x2, x3, x4, x5, x6, e, hgN, hA, _⟩ := hZ.box 5 (by decide) (by decide) d1
             have g1 := hG 5 4 rfl (Nat.le_of_ble_eq_true rfl)
             rw [e] at g1
             have g2 := hG 0 54 rfl (Nat.le_of_ble_eq_true rfl)
             have v2 := hF 0 (by decide) d2
             replace v2 : ys 0 = .agg #[.slice (some ⟨n1 + 4 + 1, 0, none⟩) 64 64, .slice (some ⟨n1 + 2, 0, none⟩) 1 1, .slice (some ⟨gL, 0, none⟩) 16 capL, .int .i64 64, .int .i64 64, .int .i64 1, .slice (some ⟨n1 + 3, 0, none⟩) 1 1] := v2
             rw [v2] at g2
             refine wpList_store_scene rfl rfl _ _ rfl (show aa.tmps.getD 4 undef = .pointer (some ⟨g, 0, none⟩) by simp [g1, bptr]) (show aa.tmps.getD 54 undef = .agg #[.slice (some ⟨n1 + 4 + 1, 0, none⟩) 64 64, .slice (some ⟨n1 + 2, 0, none⟩) 1 1, .slice (some ⟨gL, 0, none⟩) 16 capL, .int .i64 64, .int .i64 64, .int .i64 1, .slice (some ⟨n1 + 3, 0, none⟩) 1 1] by simp [g2]) hA (by simp [Value.oneCell']) ?_
             intro W' hA' hg'
             refine wpList_nil ?_
             exact ⟨undef, rfl, Ext15.put hA hg' hgN, trivial, hZ.put (i := 5) (by decide) (by decide) d1 d2 e v2 hgN hA' hg'⟩
           · intro ys done W aa hE hn hF hD hZ hG hO
             replace hE : Ext15 N W0 W := hE
             have hsN : N ≤ W.heap.size := Nat.le_trans hN1 hE.1.size
             have d1 := hD 6 (by kernel_rfl)
             have d2 := hD 1 (by kernel_rfl)
             obtain ⟨g, x0, x1, x2, x3, x4, x5, x6, e, hgN, hA, _⟩ := hZ.box 6 (by decide) (by decide) d1
             have g1 := hG 6 5 rfl (Nat.le_of_ble_eq_true rfl)
             rw [e] at g1
             have g2 := hG 1 55 rfl (Nat.le_of_ble_eq_true rfl)
             have v2 := hF 1 (by decide) d2
             replace v2 : ys 1 = .agg #[.slice (some ⟨n1 + 4 + 1, 0, none⟩) 64 64, .slice (some ⟨n1 + 2, 0, none⟩) 1 1, .slice (some ⟨gL, 0, none⟩) 16 capL, .int .i64 64, .int .i64 64, .int .i64 1, .slice (some ⟨n1 + 3, 0, none⟩) 1 1] := v2
             rw [v2] at g2
             refine wpList_store_scene rfl rfl _ _ rfl (show aa.tmps.getD 5 undef = .pointer (some ⟨g, 0, none⟩) by simp [g1, bptr]) (show aa.tmps.getD 55 undef = .agg #[.slice (some ⟨n1 + 4 + 1, 0, none⟩) 64 64, .slice (some ⟨n1 + 2, 0, none⟩) 1 1, .slice (some ⟨gL, 0, none⟩) 16 capL, .int .i64 64, .int .i64 64, .int .i64 1, .slice (some ⟨n1 + 3, 0, none⟩) 1 1] by simp [g2]) hA (by simp [Value.oneCell']) ?_
             intro W' hA' hg'
             refine wpList_nil ?_
             exact ⟨undef, rfl, Ext15.put hA hg' hgN, trivial, hZ.put (i := 6) (by decide) (by decide) d1 d2 e v2 hgN hA' hg'⟩
           · intro ys done W aa hE hn hF hD hZ hG hO
             replace hE : Ext15 N W0 W := hE
             have hsN : N ≤ W.heap.size := Nat.le_trans hN1 hE.1.size
             have d1 := hD 7 (by kernel_rfl)
             have d2 := hD 2 (by kernel_rfl)
             obtain ⟨g, x0, x1, x2, x3, x4, x5, x6, e, hgN, hA, _⟩ := hZ.box 7 (by decide) (by decide) d1
             have g1 := hG 7 6 rfl (Nat.le_of_ble_eq_true rfl)
             rw [e] at g1
             have g2 := hG 2 56 rfl (Nat.le_of_ble_eq_true rfl)
             have v2 := hF 2 (by decide) d2
             replace v2 : Lst N (ys 2) W := v2
             obtain ⟨m, v2, _⟩ := v2
             unfold leastA at v2
             rw [v2] at g2
             refine wpList_store_scene rfl rfl _ _ rfl (show aa.tmps.getD 6 undef = .pointer (some ⟨g, 0, none⟩) by simp [g1, bptr]) (show aa.tmps.getD 56 undef = .agg #[.slice none 0 0, .slice (some ⟨m + 2, 0, none⟩) 1 1, .slice none 0 0, .int .i64 1, .int .i64 1, .int .i64 0, .slice (some ⟨m + 3, 0, none⟩) 1 1] by simp [g2]) hA (by simp [Value.oneCell']) ?_
             intro W' hA' hg'
             refine wpList_nil ?_
             exact ⟨undef, rfl, Ext15.put hA hg' hgN, trivial, hZ.put (i := 7) (by decide) (by decide) d1 d2 e v2 hgN hA' hg'⟩
           · intro ys done W aa hE hn hF hD hZ hG hO
             replace hE : Ext15 N W0 W := hE
             have hsN : N ≤ W.heap.size := Nat.le_trans hN1 hE.1.size
             have d1 := hD 8 (by kernel_rfl)
             have d2 := hD 3 (by kernel_rfl)
             obtain ⟨g, x0, x1, x2, x3, x4, x5, x6, e, hgN, hA, _⟩ := hZ.box 8 (by decide) (by decide) d1
             have g1 := hG 8 7 rfl (Nat.le_of_ble_eq_true rfl)
             rw [e] at g1
             have g2 := hG 3 57 rfl (Nat.le_of_ble_eq_true rfl)
             have v2 := hF 3 (by decide) d2
             replace v2 : Lst N (ys 3) W := v2
             obtain ⟨m, v2, _⟩ := v2
             unfold leastA at v2
             rw [v2] at g2
             refine wpList_store_scene rfl rfl _ _ rfl (show aa.tmps.getD 7 undef = .pointer (some ⟨g, 0, none⟩) by simp [g1, bptr]) (show aa.tmps.getD 57 undef = .agg #[.slice none 0 0, .slice (some ⟨m + 2, 0, none⟩) 1 1, .slice none 0 0, .int .i64 1, .int .i64 1, .int .i64 0, .slice (some ⟨m + 3, 0, none⟩) 1 1] by simp [g2]) hA (by simp [Value.oneCell']) ?_
             intro W' hA' hg'
             refine wpList_nil ?_
             exact ⟨undef, rfl, Ext15.put hA hg' hgN, trivial, hZ.put (i := 8) (by decide) (by decide) d1 d2 e v2 hgN hA' hg'⟩
          case hQ =>
           intro ys W hE hF hZ
           obtain ⟨done, hd, hZ⟩ := hZ
           have v0 : ys 0 = .agg #[.slice (some ⟨n1 + 4 + 1, 0, none⟩) 64 64, .slice (some ⟨n1 + 2, 0, none⟩) 1 1, .slice (some ⟨gL, 0, none⟩) 16 capL, .int .i64 64, .int .i64 64, .int .i64 1, .slice (some ⟨n1 + 3, 0, none⟩) 1 1] := hF 0 (by decide)
           have v1 : ys 1 = .agg #[.slice (some ⟨n1 + 4 + 1, 0, none⟩) 64 64, .slice (some ⟨n1 + 2, 0, none⟩) 1 1, .slice (some ⟨gL, 0, none⟩) 16 capL, .int .i64 64, .int .i64 64, .int .i64 1, .slice (some ⟨n1 + 3, 0, none⟩) 1 1] := hF 1 (by decide)
           obtain ⟨m1, v2, hL1, hm1, hm1s⟩ : Lst N (ys 2) W := hF 2 (by decide)
           obtain ⟨m2, v3, hL2, hm2, hm2s⟩ : Lst N (ys 3) W := hF 3 (by decide)
           have v4 : ys 4 = .agg #[.slice (some ⟨n1 + 4 + 1, 0, none⟩) 64 64, .slice (some ⟨n1 + 2, 0, none⟩) 1 1, .slice (some ⟨gL, 0, none⟩) 16 capL, .int .i64 64, .int .i64 64, .int .i64 1, .slice (some ⟨n1 + 3, 0, none⟩) 1 1] := hF 4 (by decide)
           obtain ⟨g4, a4, b4, c4, d4, e4, f4, h4, w4, hN4, hA4, hs4⟩ := hZ.box 5 (by decide) (by decide) (hd 5 (by decide))
           obtain ⟨g5, a5, b5, c5, d5, e5, f5, h5, w5, hN5, hA5, hs5⟩ := hZ.box 6 (by decide) (by decide) (hd 6 (by decide))
           obtain ⟨g6, a6, b6, c6, d6, e6, f6, h6, w6, hN6, hA6, hs6⟩ := hZ.box 7 (by decide) (by decide) (hd 7 (by decide))
           obtain ⟨g7, a7, b7, c7, d7, e7, f7, h7, w7, hN7, hA7, hs7⟩ := hZ.box 8 (by decide) (by decide) (hd 8 (by decide))
           obtain ⟨g8, a8, b8, c8, d8, e8, f8, h8, w8, hN8, hA8, hs8⟩ := hZ.box 9 (by decide) (by decide) (hd 9 (by decide))
           have n45 : g4 ≠ g5 := fun e => hZ.ne 5 6 (by decide) (by decide) (by decide) (hd _ (by decide)) (hd _ (by decide)) (by rw [w4, w5, e])
           have n46 : g4 ≠ g6 := fun e => hZ.ne 5 7 (by decide) (by decide) (by decide) (hd _ (by decide)) (hd _ (by decide)) (by rw [w4, w6, e])
           have n47 : g4 ≠ g7 := fun e => hZ.ne 5 8 (by decide) (by decide) (by decide) (hd _ (by decide)) (hd _ (by decide)) (by rw [w4, w7, e])
           have n48 : g4 ≠ g8 := fun e => hZ.ne 5 9 (by decide) (by decide) (by decide) (hd _ (by decide)) (hd _ (by decide)) (by rw [w4, w8, e])
           have n56 : g5 ≠ g6 := fun e => hZ.ne 6 7 (by decide) (by decide) (by decide) (hd _ (by decide)) (hd _ (by decide)) (by rw [w5, w6, e])
           have n57 : g5 ≠ g7 := fun e => hZ.ne 6 8 (by decide) (by decide) (by decide) (hd _ (by decide)) (hd _ (by decide)) (by rw [w5, w7, e])
           have n58 : g5 ≠ g8 := fun e => hZ.ne 6 9 (by decide) (by decide) (by decide) (hd _ (by decide)) (hd _ (by decide)) (by rw [w5, w8, e])
           have n67 : g6 ≠ g7 := fun e => hZ.ne 7 8 (by decide) (by decide) (by decide) (hd _ (by decide)) (hd _ (by decide)) (by rw [w6, w7, e])
           have n68 : g6 ≠ g8 := fun e => hZ.ne 7 9 (by decide) (by decide) (by decide) (hd _ (by decide)) (hd _ (by decide)) (by rw [w6, w8, e])
           have n78 : g7 ≠ g8 := fun e => hZ.ne 8 9 (by decide) (by decide) (by decide) (hd _ (by decide)) (hd _ (by decide)) (by rw [w7, w8, e])
           have z4 := hs4 (hd 10 (by decide))
           rw [show ys (5 - 5) = ys 0 from rfl, v0] at z4
           replace hA4 : At W g4 33 #[.slice (some ⟨n1 + 4 + 1, 0, none⟩) 64 64, .slice (some ⟨n1 + 2, 0, none⟩) 1 1, .slice (some ⟨gL, 0, none⟩) 16 capL, .int .i64 64, .int .i64 64, .int .i64 1, .slice (some ⟨n1 + 3, 0, none⟩) 1 1] := by
             have e := (Value.agg.inj z4).symm
             rw [e] at hA4
             exact hA4
           have z5 := hs5 (hd 11 (by decide))
           rw [show ys (6 - 5) = ys 1 from rfl, v1] at z5
           replace hA5 : At W g5 33 #[.slice (some ⟨n1 + 4 + 1, 0, none⟩) 64 64, .slice (some ⟨n1 + 2, 0, none⟩) 1 1, .slice (some ⟨gL, 0, none⟩) 16 capL, .int .i64 64, .int .i64 64, .int .i64 1, .slice (some ⟨n1 + 3, 0, none⟩) 1 1] := by
             have e := (Value.agg.inj z5).symm
             rw [e] at hA5
             exact hA5
           have z6 := hs6 (hd 12 (by decide))
           rw [show ys (7 - 5) = ys 2 from rfl, v2] at z6
           replace hA6 : At W g6 33 #[.slice none 0 0, .slice (some ⟨m1 + 2, 0, none⟩) 1 1, .slice none 0 0, .int .i64 1, .int .i64 1, .int .i64 0, .slice (some ⟨m1 + 3, 0, none⟩) 1 1] := by
             have e := (Value.agg.inj z6).symm
             rw [e] at hA6
             exact hA6
           have z7 := hs7 (hd 13 (by decide))
           rw [show ys (8 - 5) = ys 3 from rfl, v3] at z7
           replace hA7 : At W g7 33 #[.slice none 0 0, .slice (some ⟨m2 + 2, 0, none⟩) 1 1, .slice none 0 0, .int .i64 1, .int .i64 1, .int .i64 0, .slice (some ⟨m2 + 3, 0, none⟩) 1 1] := by
             have e := (Value.agg.inj z7).symm
             rw [e] at hA7
             exact hA7
           clear hs4 hs5 hs6 hs7 hs8 z4 z5 z6 z7 hZ hF hd
           simp only [List.take_succ_cons, List.take_zero, List.drop_succ_cons, List.drop_zero, Sched.fill, v0, v1, v2, v3, v4, w4, w5, w6, w7, w8]
           clear v0 v1 v2 v3 v4 w4 w5 w6 w7 w8
           have r0 := hA8.cell 0
           have r1 := hA8.cell 1
           have r2 := hA8.cell 2
           have r3 := hA8.cell 3
           have r4 := hA8.cell 4
           have r5 := hA8.cell 5
           have r6 := hA8.cell 6
           simp at r0 r1 r2 r3 r4 r5 r6
           have rf0 := hA8.free 0
           have rf1 := hA8.free 1
           have rf2 := hA8.free 2
           have rf3 := hA8.free 3
           have rf4 := hA8.free 4
           have rf5 := hA8.free 5
           have rf6 := hA8.free 6
           simp only [bptr, leastA]
           go_upto_region 16 with fail
           clear r0 r1 r2 r3 r4 r5 r6 rf0 rf1 rf2 rf3 rf4 rf5 rf6
           obtain ⟨W2, hW2⟩ : ∃ W2, (((((((W.setCell ⟨g8, 0, none⟩ (.slice (some ⟨n1 + 4 + 1, 0, none⟩) 64 64)).setCell ⟨g8, 1, none⟩ (.slice (some ⟨n1 + 2, 0, none⟩) 1 1)).setCell ⟨g8, 2, none⟩ (.slice (some ⟨gL, 0, none⟩) 16 capL)).setCell ⟨g8, 3, none⟩ (.int .i64 64)).setCell ⟨g8, 4, none⟩ (.int .i64 64)).setCell ⟨g8, 5, none⟩ (.int .i64 1)).setCell ⟨g8, 6, none⟩ (.slice (some ⟨n1 + 3, 0, none⟩) 1 1)) = W2 := ⟨_, rfl⟩
           rw [hW2]
           have hB8 : At W2 g8 33 #[.slice (some ⟨n1 + 4 + 1, 0, none⟩) 64 64, .slice (some ⟨n1 + 2, 0, none⟩) 1 1, .slice (some ⟨gL, 0, none⟩) 16 capL, .int .i64 64, .int .i64 64, .int .i64 1, .slice (some ⟨n1 + 3, 0, none⟩) 1 1] := by rw [← hW2]; simpa using (((((((hA8.put 0 (.slice (some ⟨n1 + 4 + 1, 0, none⟩) 64 64)).put 1 (.slice (some ⟨n1 + 2, 0, none⟩) 1 1)).put 2 (.slice (some ⟨gL, 0, none⟩) 16 capL)).put 3 (.int .i64 64)).put 4 (.int .i64 64)).put 5 (.int .i64 1)).put 6 (.slice (some ⟨n1 + 3, 0, none⟩) 1 1))
           have hg8 : W.grownBy W2 (some g8) := by rw [← hW2]; exact ((((((grown_put _ _ _ _).trans (grown_put _ _ _ _)).trans (grown_put _ _ _ _)).trans (grown_put _ _ _ _)).trans (grown_put _ _ _ _)).trans (grown_put _ _ _ _)).trans (grown_put _ _ _ _)
           clear hW2
           have hE2 : Below N W0 W2 := hE.1.grown hg8 (Nat.le_trans hN1 hE.1.size) (fun b e => by cases e; exact hN8)
           have hB4 := grownAt hA4 hg8 (by simp [n48])
           have hB5 := grownAt hA5 hg8 (by simp [n58])
           have hB6 := grownAt hA6 hg8 (by simp [n68])
           have hB7 := grownAt hA7 hg8 (by simp [n78])
           have hx2 := Ext15.put hA8 hg8 hN8
           replace hL1 := hL1.ext hx2
           replace hL2 := hL2.ext hx2
           clear hA4 hA5 hA6 hA7 hA8 hx2 hE hg8 hm1s hm2s
           have q0 := (hboxK W2 hE2).cell 0
           simp at q0
           have q0' := ((hboxK W2 hE2).alloc (.cells #[] 66)).cell 0
           simp at q0'
           obtain ⟨hveh, hdraw, hrq, hcar, hownI, hown, hLot, hbw⟩ := hk.out
           have hbN : Below wr.heap.size wr W2 := hbW.trans (hE2.mono (Nat.le_trans hbW.size hN2))
           have hrq2 := hrq.keep hbN hrq.inside
           have hltcK : ∀ V, Below N W0 V → ∀ (j : Nat) (u : Value), ltsF[j]? = some u → V.cell? ((⟨gL, 0, none⟩ : Addr).add j) = some u := fun V hV j u hu => ((hbW.trans (hV.mono (Nat.le_trans hbW.size hN2))).cell (by rw [add_at]; exact (hown.lt gL rfl).2)).trans (hown.cells rfl j u hu)
           have hrqc : ∀ (j : Nat) (u : Value), rqsF[j]? = some u → W2.cell? ((⟨n1 + 4 + 1, 0, none⟩ : Addr).add j) = some u := fun j u hu => by
             have := (hrq2.cell j).trans (cs_all r3 j u hu)
             rw [add_at]; exact this
           have hri : n1 + 4 + 1 < W2.heap.size := hrq2.inside
           have hgi : gL < N := Nat.lt_of_lt_of_le (hown.lt gL rfl).2 (Nat.le_trans hbW.size hN2)
           clear hveh hdraw hrq hcar hownI hown hLot hbw hbN hrq2
           obtain ⟨iR, hiR, hR0, hR1, hR2⟩ := info_parts info_rq
           have ho1 := World.ownsRow_made (base := W2.heap.size) (e := 66) (size := 10) W2 #[] 0 (Nat.le_refl _) (Nat.zero_le _) rfl
           go_wp2_with (at_builtin; refine wpList_append_own _ rfl _ _ 28 rfl W2.heap.size 66 iR (.agg #[.int .i64 0, .int .i64 0, .int .i64 0, .int .i64 0, .int .i64 0, .int .i64 0, .int .i64 0, .int .i64 0, .int .i64 0, .int .i64 0]) 10 80 (by kernel_rfl) hiR hR0 hR1 hR2 rfl (by decide) _ _ _ rfl ho1 ⟨n1 + 4 + 1, 0, none⟩ 64 64 rqsF rfl rqsF_len (fun j u hu => by have := hrqc j u hu; exact ((below_alloc1 W2 _).cell (by rw [add_at]; exact hri)).trans this) rqsF_one (by decide) (by decide) (by simp) ?_; intro v7 w7 hown7 hgrow7 hnil7)
           have hb7 : Below W2.heap.size W2 w7 := (below_alloc1 W2 _).grown hgrow7 (by simp) (fun b e => (ho1.lt b e).1)
           refine (one_any _).mono ?_
           rintro e w8 ⟨rfl, hb8⟩
           have hown8 := hown7.kept (Below.grow hb8) (Classical.em _)
           have hb8' : Below W2.heap.size W2 w8 := hb7.trans (hb8.mono hb7.size)
           clear hown7 hgrow7 hnil7 hb7 hb8 q0 q0'
           go_upto_region 17 with (at_builtin; refine wpList_append_own _ rfl _ _ 28 rfl W2.heap.size 66 iR (.agg #[.int .i64 0, .int .i64 0, .int .i64 0, .int .i64 0, .int .i64 0, .int .i64 0, .int .i64 0, .int .i64 0, .int .i64 0, .int .i64 0]) 10 80 (by kernel_rfl) hiR hR0 hR1 hR2 rfl (by decide) _ _ _ rfl (hown8.alloc _) ⟨w8.heap.size, 0, none⟩ 1 1 [.int .i64 0, .int .i64 0, .int .i64 1, .int .i64 0, .int .i64 0, .int .i64 50, .int .i64 0, .int .i64 50, .int .i64 1, .int .i64 0] rfl rfl (World.news_of_block (cs := #[.int .i64 0, .int .i64 0, .int .i64 1, .int .i64 0, .int .i64 0, .int .i64 50, .int .i64 0, .int .i64 50, .int .i64 1, .int .i64 0]) (t := 66) (fr := (0, 0)) (heap_alloc_new w8 _)) (by simp [Value.oneCell']) (by decide) (by decide) (by have := hb8'.size; simp; omega) ?_; intro v9 w9 hown9 hgrow9 hnil9; have hb9 : Below W2.heap.size W2 w9 := (hb8'.alloc hb8'.size _).grown hgrow9 (by have := hb8'.size; simp; omega) (fun b e => (hown8.lt b e).1); have hC4 := hB4.keep hb9 hB4.inside; have s0 := hC4.cell 0; simp at s0; have sf0 := hC4.free 0; obtain ⟨gO9, cap9, h9, hg9⟩ := own_open (k := 64) hown9; replace h9 : v9 = .slice (some ⟨gO9, 0, none⟩) 65 cap9 := h9; subst h9)
           have hR16 : RowK w9 (.slice (some ⟨gO9, 0, none⟩) 65 cap9) 66 10 ((kQ 65).map rqV) := RowK.of_owns (n := 64) hown9 rqsF_over (by decide +kernel)
           clear s0 sf0 hC4 hown9 hgrow9 hnil9 hown8 hb8' hiR hR0 hR1 hR2 ho1
           replace hB4 := hB4.keep hb9 hB4.inside
           replace hB5 := hB5.keep hb9 hB5.inside
           replace hB6 := hB6.keep hb9 hB6.inside
           replace hB7 := hB7.keep hb9 hB7.inside
           replace hB8 := hB8.keep hb9 hB8.inside
           replace hL1 := hL1.keep hb9 hL1.draw.inside
           replace hL2 := hL2.keep hb9 hL2.draw.inside
           replace hE2 : Below N W0 w9 := hE2.trans (hb9.mono (Nat.le_trans hN1 hE2.size))
           obtain ⟨W3, hW3⟩ : ∃ W3, w9.setCell ⟨g4, 0, none⟩ (.slice (some ⟨gO9, 0, none⟩) 65 cap9) = W3 := ⟨_, rfl⟩
           have hK := kept33_put hB4 0 (.slice (some ⟨gO9, 0, none⟩) 65 cap9)
           have hP := hB4.put 0 (.slice (some ⟨gO9, 0, none⟩) 65 cap9)
           replace hE2 := hE2.grown (grown_put w9 g4 0 (.slice (some ⟨gO9, 0, none⟩) 65 cap9)) (Nat.le_trans hN1 hE2.size) (fun b e => by cases e; exact hN4)
           replace hB5 := hB5.far (Ne.symm n45) 0 (.slice (some ⟨gO9, 0, none⟩) 65 cap9)
           replace hB6 := hB6.far (Ne.symm n46) 0 (.slice (some ⟨gO9, 0, none⟩) 65 cap9)
           replace hB7 := hB7.far (Ne.symm n47) 0 (.slice (some ⟨gO9, 0, none⟩) 65 cap9)
           replace hB8 := hB8.far (Ne.symm n48) 0 (.slice (some ⟨gO9, 0, none⟩) 65 cap9)
           rw [hW3] at hK hP hE2 hB5 hB6 hB7 hB8
           replace hB4 : At W3 g4 33 #[.slice (some ⟨gO9, 0, none⟩) 65 cap9, .slice (some ⟨n1 + 2, 0, none⟩) 1 1, .slice (some ⟨gL, 0, none⟩) 16 capL, .int .i64 64, .int .i64 64, .int .i64 1, .slice (some ⟨n1 + 3, 0, none⟩) 1 1] := by simpa using hP
           replace hL1 := hL1.k33 hK
           replace hL2 := hL2.k33 hK
           replace hR16 := hR16.kept hK (by decide)
           clear hP hK
           rw [hW3]
           clear hW3 hb9
           obtain ⟨iL2, hiR, hR0, hR1, hR2⟩ := info_parts info_lot
           have hgW : gL < W3.heap.size := Nat.lt_of_lt_of_le hgi (Nat.le_trans hN1 hE2.size)
           have q0' := ((hboxK W3 hE2).alloc (.cells #[] 59)).cell 2
           simp at q0'
           have hltc := hltcK W3 hE2
           have ho1 := World.ownsRow_made (base := W3.heap.size) (e := 59) (size := 2) W3 #[] 0 (Nat.le_refl _) (Nat.zero_le _) rfl
           go_upto_region 18 with (first | (at_builtin; refine wpList_append_own _ rfl _ _ 30 rfl W3.heap.size 59 iL2 (.agg #[.int .i64 0, .int .i64 0]) 2 16 (by kernel_rfl) hiR hR0 hR1 hR2 rfl (by decide) _ _ _ rfl ho1 ⟨gL, 0, none⟩ 16 capL ltsF rfl ltsF_len (fun j u hu => by have := hltc j u hu; exact ((below_alloc1 W3 _).cell (by rw [add_at]; exact hgW)).trans this) ltsF_one (by decide) (by decide) (by simp) ?_; intro v7 w7 hown7 hgrow7 hnil7; have hb7 : Below W3.heap.size W3 w7 := (below_alloc1 W3 _).grown hgrow7 (by simp) (fun b e => (ho1.lt b e).1)) | (at_builtin; refine wpList_append_own _ rfl _ _ 30 rfl W3.heap.size 59 iL2 (.agg #[.int .i64 0, .int .i64 0]) 2 16 (by kernel_rfl) hiR hR0 hR1 hR2 rfl (by decide) _ _ _ rfl (hown7.alloc _) ⟨w7.heap.size, 0, none⟩ 1 1 [.int .i64 20, .int .i64 0] rfl rfl (World.news_of_block (cs := #[.int .i64 20, .int .i64 0]) (t := 59) (fr := (0, 0)) (heap_alloc_new w7 _)) (by simp [Value.oneCell']) (by decide) (by decide) (by have := hb7.size; simp; omega) ?_; intro v9 w9 hown9 hgrow9 hnil9; have hb9 : Below W3.heap.size W3 w9 := (hb7.alloc hb7.size _).grown hgrow9 (by have := hb7.size; simp; omega) (fun b e => (hown7.lt b e).1); have hC5 := hB5.keep hb9 hB5.inside; have s0 := hC5.cell 2; simp at s0; have sf0 := hC5.free 2; obtain ⟨gO7, cap7, h9, hg9⟩ := own_open (k := 16) hown9; replace h9 : v9 = .slice (some ⟨gO7, 0, none⟩) 17 cap7 := h9; subst h9))
           have hR17 : RowK w9 (.slice (some ⟨gO7, 0, none⟩) 17 cap7) 59 2 ((kL ++ [(⟨20, 0⟩ : Lt)]).map ltV) := RowK.of_owns (n := 16) hown9 ltsF_lots (by decide +kernel)
           clear s0 sf0 hC5 hown9 hgrow9 hnil9 hown7 hgrow7 hnil7 hb7 hiR hR0 hR1 hR2 ho1 q0' hltc
           replace hB4 := hB4.keep hb9 hB4.inside
           replace hB5 := hB5.keep hb9 hB5.inside
           replace hB6 := hB6.keep hb9 hB6.inside
           replace hB7 := hB7.keep hb9 hB7.inside
           replace hB8 := hB8.keep hb9 hB8.inside
           replace hL1 := hL1.keep hb9 hL1.draw.inside
           replace hL2 := hL2.keep hb9 hL2.draw.inside
           replace hR16 := hR16.keep hb9
           replace hE2 : Below N W0 w9 := hE2.trans (hb9.mono (Nat.le_trans hN1 hE2.size))
           obtain ⟨W4, hW4⟩ : ∃ W4, w9.setCell ⟨g5, 2, none⟩ (.slice (some ⟨gO7, 0, none⟩) 17 cap7) = W4 := ⟨_, rfl⟩
           have hK := kept33_put hB5 2 (.slice (some ⟨gO7, 0, none⟩) 17 cap7)
           have hP := hB5.put 2 (.slice (some ⟨gO7, 0, none⟩) 17 cap7)
           replace hE2 := hE2.grown (grown_put w9 g5 2 (.slice (some ⟨gO7, 0, none⟩) 17 cap7)) (Nat.le_trans hN1 hE2.size) (fun b e => by cases e; exact hN5)
           replace hB4 := hB4.far n45 2 (.slice (some ⟨gO7, 0, none⟩) 17 cap7)
           replace hB6 := hB6.far (Ne.symm n56) 2 (.slice (some ⟨gO7, 0, none⟩) 17 cap7)
           replace hB7 := hB7.far (Ne.symm n57) 2 (.slice (some ⟨gO7, 0, none⟩) 17 cap7)
           replace hB8 := hB8.far (Ne.symm n58) 2 (.slice (some ⟨gO7, 0, none⟩) 17 cap7)
           rw [hW4] at hK hP hE2 hB4 hB6 hB7 hB8
           replace hB5 : At W4 g5 33 #[.slice (some ⟨n1 + 4 + 1, 0, none⟩) 64 64, .slice (some ⟨n1 + 2, 0, none⟩) 1 1, .slice (some ⟨gO7, 0, none⟩) 17 cap7, .int .i64 64, .int .i64 64, .int .i64 1, .slice (some ⟨n1 + 3, 0, none⟩) 1 1] := by simpa using hP
           replace hL1 := hL1.k33 hK
           replace hL2 := hL2.k33 hK
           replace hR16 := hR16.kept hK (by decide)
           replace hR17 := hR17.kept hK (by decide)
           clear hP hK
           rw [hW4]
           clear hW4 hb9
           have u1 := hB6.cell 1
           have uf1 := hB6.free 1
           simp at u1
           have ua1 := (hB6.alloc (.cells #[.slice (some ⟨m1 + 1, 0, none⟩) 1 1, .slice none 0 0, .slice none 0 0, .slice none 0 0] 53)).cell 1
           have uaf1 := (hB6.alloc (.cells #[.slice (some ⟨m1 + 1, 0, none⟩) 1 1, .slice none 0 0, .slice none 0 0, .slice none 0 0] 53)).free 1
           simp at ua1
           have y0 := hL1.car.cell 0
           have yf0 := hL1.car.free 0
           have y1 := hL1.car.cell 1
           have yf1 := hL1.car.free 1
           simp at y0 y1
           go_upto_region 19 with fail
           clear u1 uf1
           clear ua1 uaf1
           clear y0 yf0 y1 yf1
           have hA18 := At.new W4 53 #[.slice (some ⟨m1 + 1, 0, none⟩) 1 1, .slice none 0 0, .slice none 0 0, .slice none 0 0]
           have hR18 : RowK (W4.alloc (.cells #[.slice (some ⟨m1 + 1, 0, none⟩) 1 1, .slice none 0 0, .slice none 0 0, .slice none 0 0] 53)) (.slice (some ⟨W4.heap.size, 0, none⟩) 2 2) 53 2 [[.slice (some ⟨m1 + 1, 0, none⟩) 1 1, .slice none 0 0], [.slice none 0 0, .slice none 0 0]] := ⟨_, 2, _, rfl, hA18, fun i u hu => by simpa using hu, Nat.le_refl _, by unfold maxLen; decide⟩
           have hb4 := below_alloc2 W4 (.cells #[.slice (some ⟨m1 + 1, 0, none⟩) 1 1, .slice none 0 0, .slice none 0 0, .slice none 0 0] 53)
           clear hA18
           obtain ⟨x18, hx18⟩ : ∃ x, x = W4.heap.size := ⟨_, rfl⟩
           rw [← hx18] at hR18 ⊢
           clear hx18
           obtain ⟨W5, hW5⟩ : ∃ W5, W4.alloc (.cells #[.slice (some ⟨m1 + 1, 0, none⟩) 1 1, .slice none 0 0, .slice none 0 0, .slice none 0 0] 53) = W5 := ⟨_, rfl⟩
           rw [hW5] at hR18 hb4 ⊢
           replace hB4 := hB4.keep hb4 hB4.inside
           replace hB5 := hB5.keep hb4 hB5.inside
           replace hB6 := hB6.keep hb4 hB6.inside
           replace hB7 := hB7.keep hb4 hB7.inside
           replace hB8 := hB8.keep hb4 hB8.inside
           replace hL1 := hL1.keep hb4 hL1.draw.inside
           replace hL2 := hL2.keep hb4 hL2.draw.inside
           replace hR16 := hR16.keep hb4
           replace hR17 := hR17.keep hb4
           replace hE2 : Below N W0 W5 := hE2.trans (hb4.mono (Nat.le_trans hN1 hE2.size))
           clear hb4 hW5
           obtain ⟨W6, hW6⟩ : ∃ W6, W5.setCell ⟨g6, 1, none⟩ (.slice (some ⟨x18, 0, none⟩) 2 2) = W6 := ⟨_, rfl⟩
           have hK := kept33_put hB6 1 (.slice (some ⟨x18, 0, none⟩) 2 2)
           have hP := hB6.put 1 (.slice (some ⟨x18, 0, none⟩) 2 2)
           replace hE2 := hE2.grown (grown_put W5 g6 1 (.slice (some ⟨x18, 0, none⟩) 2 2)) (Nat.le_trans hN1 hE2.size) (fun b e => by cases e; exact hN6)
           replace hB4 := hB4.far n46 1 (.slice (some ⟨x18, 0, none⟩) 2 2)
           replace hB5 := hB5.far n56 1 (.slice (some ⟨x18, 0, none⟩) 2 2)
           replace hB7 := hB7.far (Ne.symm n67) 1 (.slice (some ⟨x18, 0, none⟩) 2 2)
           replace hB8 := hB8.far (Ne.symm n68) 1 (.slice (some ⟨x18, 0, none⟩) 2 2)
           rw [hW6] at hK hP hE2 hB4 hB5 hB7 hB8
           replace hB6 : At W6 g6 33 #[.slice none 0 0, .slice (some ⟨x18, 0, none⟩) 2 2, .slice none 0 0, .int .i64 1, .int .i64 1, .int .i64 0, .slice (some ⟨m1 + 3, 0, none⟩) 1 1] := by simpa using hP
           replace hL1 := hL1.k33 hK
           replace hL2 := hL2.k33 hK
           replace hR16 := hR16.kept hK (by decide)
           replace hR17 := hR17.kept hK (by decide)
           replace hR18 := hR18.kept hK (by decide)
           clear hP hK
           rw [hW6]
           clear hW6
           have u6 := (hB6.alloc (.cells #[.slice none 0 0, .slice none 0 0] 73)).cell 6
           have uf6 := (hB6.alloc (.cells #[.slice none 0 0, .slice none 0 0] 73)).free 6
           simp at u6
           go_upto_region 20 with fail
           clear u6 uf6
           have hb4 := below_alloc2 W6 (.cells #[.slice none 0 0, .slice none 0 0] 73)
           obtain ⟨x19, hx19⟩ : ∃ x, x = W6.heap.size := ⟨_, rfl⟩
           rw [← hx19]
           clear hx19
           obtain ⟨W7, hW7⟩ : ∃ W7, W6.alloc (.cells #[.slice none 0 0, .slice none 0 0] 73) = W7 := ⟨_, rfl⟩
           rw [hW7] at hb4 ⊢
           replace hB4 := hB4.keep hb4 hB4.inside
           replace hB5 := hB5.keep hb4 hB5.inside
           replace hB6 := hB6.keep hb4 hB6.inside
           replace hB7 := hB7.keep hb4 hB7.inside
           replace hB8 := hB8.keep hb4 hB8.inside
           replace hL1 := hL1.keep hb4 hL1.draw.inside
           replace hL2 := hL2.keep hb4 hL2.draw.inside
           replace hR16 := hR16.keep hb4
           replace hR17 := hR17.keep hb4
           replace hR18 := hR18.keep hb4
           replace hE2 : Below N W0 W7 := hE2.trans (hb4.mono (Nat.le_trans hN1 hE2.size))
           clear hb4 hW7
           obtain ⟨W8, hW8⟩ : ∃ W8, W7.setCell ⟨g6, 6, none⟩ (.slice (some ⟨x19, 0, none⟩) 2 2) = W8 := ⟨_, rfl⟩
           have hK := kept33_put hB6 6 (.slice (some ⟨x19, 0, none⟩) 2 2)
           have hP := hB6.put 6 (.slice (some ⟨x19, 0, none⟩) 2 2)
           replace hE2 := hE2.grown (grown_put W7 g6 6 (.slice (some ⟨x19, 0, none⟩) 2 2)) (Nat.le_trans hN1 hE2.size) (fun b e => by cases e; exact hN6)
           replace hB4 := hB4.far n46 6 (.slice (some ⟨x19, 0, none⟩) 2 2)
           replace hB5 := hB5.far n56 6 (.slice (some ⟨x19, 0, none⟩) 2 2)
           replace hB7 := hB7.far (Ne.symm n67) 6 (.slice (some ⟨x19, 0, none⟩) 2 2)
           replace hB8 := hB8.far (Ne.symm n68) 6 (.slice (some ⟨x19, 0, none⟩) 2 2)
           rw [hW8] at hK hP hE2 hB4 hB5 hB7 hB8
           replace hB6 : At W8 g6 33 #[.slice none 0 0, .slice (some ⟨x18, 0, none⟩) 2 2, .slice none 0 0, .int .i64 1, .int .i64 1, .int .i64 0, .slice (some ⟨x19, 0, none⟩) 2 2] := by simpa using hP
           replace hL1 := hL1.k33 hK
           replace hL2 := hL2.k33 hK
           replace hR16 := hR16.kept hK (by decide)
           replace hR17 := hR17.kept hK (by decide)
           replace hR18 := hR18.kept hK (by decide)
           clear hP hK
           rw [hW8]
           clear hW8
           have u6 := hB7.cell 6
           have uf6 := hB7.free 6
           simp at u6
           go_upto_region 21 with fail
           clear u6 uf6
           obtain ⟨W9, hW9⟩ : ∃ W9, W8.setCell ⟨g7, 6, none⟩ (.slice none 0 0) = W9 := ⟨_, rfl⟩
           have hK := kept33_put hB7 6 (.slice none 0 0)
           have hP := hB7.put 6 (.slice none 0 0)
           replace hE2 := hE2.grown (grown_put W8 g7 6 (.slice none 0 0)) (Nat.le_trans hN1 hE2.size) (fun b e => by cases e; exact hN7)
           replace hB4 := hB4.far n47 6 (.slice none 0 0)
           replace hB5 := hB5.far n57 6 (.slice none 0 0)
           replace hB6 := hB6.far n67 6 (.slice none 0 0)
           replace hB8 := hB8.far (Ne.symm n78) 6 (.slice none 0 0)
           rw [hW9] at hK hP hE2 hB4 hB5 hB6 hB8
           replace hB7 : At W9 g7 33 #[.slice none 0 0, .slice (some ⟨m2 + 2, 0, none⟩) 1 1, .slice none 0 0, .int .i64 1, .int .i64 1, .int .i64 0, .slice none 0 0] := by simpa using hP
           replace hL1 := hL1.k33 hK
           replace hL2 := hL2.k33 hK
           replace hR16 := hR16.kept hK (by decide)
           replace hR17 := hR17.kept hK (by decide)
           replace hR18 := hR18.kept hK (by decide)
           clear hP hK
           rw [hW9]
           clear hW9
           have u4 := hB8.cell 4
           have uf4 := hB8.free 4
           simp at u4
           go_upto_region 22 with fail
           clear u4 uf4
           obtain ⟨Wa, hWa⟩ : ∃ Wa, W9.setCell ⟨g8, 4, none⟩ (.int .i64 65) = Wa := ⟨_, rfl⟩
           have hK := kept33_put hB8 4 (.int .i64 65)
           have hP := hB8.put 4 (.int .i64 65)
           replace hE2 := hE2.grown (grown_put W9 g8 4 (.int .i64 65)) (Nat.le_trans hN1 hE2.size) (fun b e => by cases e; exact hN8)
           replace hB4 := hB4.far n48 4 (.int .i64 65)
           replace hB5 := hB5.far n58 4 (.int .i64 65)
           replace hB6 := hB6.far n68 4 (.int .i64 65)
           replace hB7 := hB7.far n78 4 (.int .i64 65)
           rw [hWa] at hK hP hE2 hB4 hB5 hB6 hB7
           replace hB8 : At Wa g8 33 #[.slice (some ⟨n1 + 4 + 1, 0, none⟩) 64 64, .slice (some ⟨n1 + 2, 0, none⟩) 1 1, .slice (some ⟨gL, 0, none⟩) 16 capL, .int .i64 64, .int .i64 65, .int .i64 1, .slice (some ⟨n1 + 3, 0, none⟩) 1 1] := by simpa using hP
           replace hL1 := hL1.k33 hK
           replace hL2 := hL2.k33 hK
           replace hR16 := hR16.kept hK (by decide)
           replace hR17 := hR17.kept hK (by decide)
           replace hR18 := hR18.kept hK (by decide)
           clear hP hK
           rw [hWa]
           clear hWa
           obtain ⟨N2, hP1, hP2⟩ : ∃ N, N ≤ Wa.heap.size ∧ Wa.heap.size ≤ N := ⟨_, Nat.le_refl _, Nat.le_refl _⟩
           have hNN : N ≤ N2 := Nat.le_trans (Nat.le_trans hN1 hE2.size) hP2
           refine Sched.wp_region_sched 5 (Ext15 N2) (V22 N2 (.agg #[.slice (some ⟨n1 + 4 + 1, 0, none⟩) 64 64, .slice (some ⟨n1 + 2, 0, none⟩) 1 1, .slice (some ⟨gL, 0, none⟩) 16 capL, .int .i64 64, .int .i64 64, .int .i64 1, .slice (some ⟨n1 + 3, 0, none⟩) 1 1])) (Z15 N2 2) (by kernel_rfl) (by kernel_rfl) (by kernel_rfl) (fun h1 h2 => h1.trans h2) (fun h1 h2 => V22.keep h1 h2) ⟨(Below.refl _ _).drew, fun g t cs h _ => h⟩ (fun ys => Z15.start _ _ _ _) (Sched.StepsA.steps (by kernel_rfl) ?hS2) ?hQ2
           case hS2 =>
            simp only [List.take_succ_cons, List.take_zero]
            refine ⟨?_, ?_, ?_, ?_, ?_, trivial⟩
            · intro ys done W aa hE hn hF hD hZ hG hO
              replace hE : Ext15 N2 Wa W := hE
              have hsN : N2 ≤ W.heap.size := Nat.le_trans hP1 hE.1.size
              go_wp2_with fail
              refine (least_any _).mono ?_
              rintro e W' ⟨rfl, hl, hs, hb⟩
              go_wp2_with fail
              exact ⟨_, rfl, Ext15.below hb hsN, ⟨_, rfl, hl, hsN, by omega⟩, hZ.light (by decide) hn (fun _ _ h => h.keep hb h.inside)⟩
            · intro ys done W aa hE hn hF hD hZ hG hO
              replace hE : Ext15 N2 Wa W := hE
              have hsN : N2 ≤ W.heap.size := Nat.le_trans hP1 hE.1.size
              have o1 := hO 1 (by kernel_rfl)
              replace o1 : aa.tmps[1]? = some (.pointer (some ⟨n1 + 4, 0, none⟩)) := o1
              have hbx := hboxK W (hE2.trans (hE.1.mono hNN))
              have p0 := hbx.cell 0
              have p1 := hbx.cell 1
              have p2 := hbx.cell 2
              have p3 := hbx.cell 3
              have p4 := hbx.cell 4
              have p5 := hbx.cell 5
              have p6 := hbx.cell 6
              simp at p0 p1 p2 p3 p4 p5 p6
              go_wp2_with fail
              exact ⟨_, rfl, Ext15.below (Below.refl _ _) hsN, rfl, hZ.light (by decide) hn (fun _ _ h => h)⟩
            · intro ys done W aa hE hn hF hD hZ hG hO
              replace hE : Ext15 N2 Wa W := hE
              have hsN : N2 ≤ W.heap.size := Nat.le_trans hP1 hE.1.size
              go_wp2_with fail
              exact ⟨_, rfl, Ext15.below ((Below.refl _ _).alloc (Nat.le_refl _) _) hsN, trivial, hZ.new (by decide) (by decide) hn hsN⟩
            · intro ys done W aa hE hn hF hD hZ hG hO
              replace hE : Ext15 N2 Wa W := hE
              have hsN : N2 ≤ W.heap.size := Nat.le_trans hP1 hE.1.size
              go_wp2_with fail
              exact ⟨_, rfl, Ext15.below ((Below.refl _ _).alloc (Nat.le_refl _) _) hsN, trivial, hZ.new (by decide) (by decide) hn hsN⟩
            · intro ys done W aa hE hn hF hD hZ hG hO
              replace hE : Ext15 N2 Wa W := hE
              have hsN : N2 ≤ W.heap.size := Nat.le_trans hP1 hE.1.size
              have d1 := hD 2 (by kernel_rfl)
              have d2 := hD 0 (by kernel_rfl)
              obtain ⟨g, x0, x1, x2, x3, x4, x5, x6, e, hgN, hA, _⟩ := hZ.box 2 (by decide) (by decide) d1
              have g1 := hG 2 9 rfl (Nat.le_of_ble_eq_true rfl)
              rw [e] at g1
              have g2 := hG 0 86 rfl (Nat.le_of_ble_eq_true rfl)
              have v2 := hF 0 (by decide) d2
              replace v2 : Lst N2 (ys 0) W := v2
              obtain ⟨m, v2, _⟩ := v2
              unfold leastA at v2
              rw [v2] at g2
              refine wpList_store_scene rfl rfl _ _ rfl (show aa.tmps.getD 9 undef = .pointer (some ⟨g, 0, none⟩) by simp [g1, bptr]) (show aa.tmps.getD 86 undef = .agg #[.slice none 0 0, .slice (some ⟨m + 2, 0, none⟩) 1 1, .slice none 0 0, .int .i64 1, .int .i64 1, .int .i64 0, .slice (some ⟨m + 3, 0, none⟩) 1 1] by simp [g2]) hA (by simp [Value.oneCell']) ?_
              intro W' hA' hg'
              refine wpList_nil ?_
              exact ⟨undef, rfl, Ext15.put hA hg' hgN, trivial, hZ.put (i := 2) (by decide) (by decide) d1 d2 e v2 hgN hA' hg'⟩
           case hQ2 =>
            intro ys W hE hF hZ
            obtain ⟨done, hd, hZ⟩ := hZ
            obtain ⟨m3, v0, hL3, hm3, hm3s⟩ : Lst N2 (ys 0) W := hF 0 (by decide)
            have v1 : ys 1 = .agg #[.slice (some ⟨n1 + 4 + 1, 0, none⟩) 64 64, .slice (some ⟨n1 + 2, 0, none⟩) 1 1, .slice (some ⟨gL, 0, none⟩) 16 capL, .int .i64 64, .int .i64 64, .int .i64 1, .slice (some ⟨n1 + 3, 0, none⟩) 1 1] := hF 1 (by decide)
            obtain ⟨g9, a9, b9, c9, d9, e9, f9, h9, w9, hN9, hB9, hs9⟩ := hZ.box 2 (by decide) (by decide) (hd 2 (by decide))
            obtain ⟨g10, a10, b10, c10, d10, e10, f10, h10, w10, hN10, hB10, hs10⟩ := hZ.box 3 (by decide) (by decide) (hd 3 (by decide))
            have n910 : g9 ≠ g10 := fun e => hZ.ne 2 3 (by decide) (by decide) (by decide) (hd _ (by decide)) (hd _ (by decide)) (by rw [w9, w10, e])
            have z9 := hs9 (hd 4 (by decide))
            rw [show ys (2 - 2) = ys 0 from rfl, v0] at z9
            replace hB9 : At W g9 33 #[.slice none 0 0, .slice (some ⟨m3 + 2, 0, none⟩) 1 1, .slice none 0 0, .int .i64 1, .int .i64 1, .int .i64 0, .slice (some ⟨m3 + 3, 0, none⟩) 1 1] := by
              have e := (Value.agg.inj z9).symm
              rw [e] at hB9
              exact hB9
            have hF2 : Below N2 Wa W := hE.1
            clear hs9 hs10 z9 hZ hF hd hE
            simp only [List.take_succ_cons, List.take_zero, List.drop_succ_cons, List.drop_zero, Sched.fill, v0, v1, w9, w10]
            clear v0 v1 w9 w10
            have r0 := hB10.cell 0
            have rf0 := hB10.free 0
            have r1 := hB10.cell 1
            have rf1 := hB10.free 1
            have r2 := hB10.cell 2
            have rf2 := hB10.free 2
            have r3 := hB10.cell 3
            have rf3 := hB10.free 3
            have r4 := hB10.cell 4
            have rf4 := hB10.free 4
            have r5 := hB10.cell 5
            have rf5 := hB10.free 5
            have r6 := hB10.cell 6
            have rf6 := hB10.free 6
            simp at r0 r1 r2 r3 r4 r5 r6
            simp only [bptr, leastA]
            go_upto_region 23 with fail
            clear r0 rf0 r1 rf1 r2 rf2 r3 rf3 r4 rf4 r5 rf5 r6 rf6
            obtain ⟨Wb, hWb⟩ : ∃ Wb, (((((((W.setCell ⟨g10, 0, none⟩ (.slice (some ⟨n1 + 4 + 1, 0, none⟩) 64 64)).setCell ⟨g10, 1, none⟩ (.slice (some ⟨n1 + 2, 0, none⟩) 1 1)).setCell ⟨g10, 2, none⟩ (.slice (some ⟨gL, 0, none⟩) 16 capL)).setCell ⟨g10, 3, none⟩ (.int .i64 64)).setCell ⟨g10, 4, none⟩ (.int .i64 64)).setCell ⟨g10, 5, none⟩ (.int .i64 1)).setCell ⟨g10, 6, none⟩ (.slice (some ⟨n1 + 3, 0, none⟩) 1 1)) = Wb := ⟨_, rfl⟩
            rw [hWb]
            have hC10 : At Wb g10 33 #[.slice (some ⟨n1 + 4 + 1, 0, none⟩) 64 64, .slice (some ⟨n1 + 2, 0, none⟩) 1 1, .slice (some ⟨gL, 0, none⟩) 16 capL, .int .i64 64, .int .i64 64, .int .i64 1, .slice (some ⟨n1 + 3, 0, none⟩) 1 1] := by rw [← hWb]; simpa using (((((((hB10.put 0 (.slice (some ⟨n1 + 4 + 1, 0, none⟩) 64 64)).put 1 (.slice (some ⟨n1 + 2, 0, none⟩) 1 1)).put 2 (.slice (some ⟨gL, 0, none⟩) 16 capL)).put 3 (.int .i64 64)).put 4 (.int .i64 64)).put 5 (.int .i64 1)).put 6 (.slice (some ⟨n1 + 3, 0, none⟩) 1 1))
            have hg10 : W.grownBy Wb (some g10) := by rw [← hWb]; exact ((((((grown_put _ _ _ _).trans (grown_put _ _ _ _)).trans (grown_put _ _ _ _)).trans (grown_put _ _ _ _)).trans (grown_put _ _ _ _)).trans (grown_put _ _ _ _)).trans (grown_put _ _ _ _)
            clear hWb
            replace hF2 := hF2.grown hg10 (Nat.le_trans hP1 hF2.size) (fun b e => by cases e; exact hN10)
            replace hL3 := hL3.ext (Ext15.put hB10 hg10 hN10)
            replace hB9 := grownAt hB9 hg10 (by simp [n910])
            replace hB10 := hC10
            clear hC10 hg10 hm3s
            have u1 := hB9.cell 1
            have uf1 := hB9.free 1
            simp at u1
            have ya1 := (hL3.car.alloc (.cells #[.int .i64 0] 3)).cell 1
            have yaf1 := (hL3.car.alloc (.cells #[.int .i64 0] 3)).free 1
            simp at ya1
            go_upto_region 24 with fail
            clear u1 uf1
            clear ya1 yaf1
            obtain ⟨x23, hx23⟩ : ∃ x, x = Wb.heap.size := ⟨_, rfl⟩
            have hn23 : m3 + 2 ≠ x23 := by have := hL3.car.inside; omega
            have hLO : LeastOwn ((Wb.alloc (.cells #[.int .i64 0] 3)).setCell ⟨m3 + 2, 1, none⟩ (.slice (some ⟨x23, 0, none⟩) 1 1)) m3 x23 := ⟨(hL3.veh.alloc _).far (by omega) _ _, (by simpa using (hL3.car.alloc (.cells #[.int .i64 0] 3)).put 1 (.slice (some ⟨x23, 0, none⟩) 1 1)), (hL3.draw.alloc _).far (by omega) _ _, (At.new_ _ _ _ hx23).far (Ne.symm hn23) _ _⟩
            replace hB9 := (hB9.alloc (.cells #[.int .i64 0] 3)).far (At.apart hB9 hL3.car (by decide)) 1 (.slice (some ⟨x23, 0, none⟩) 1 1)
            replace hB10 := (hB10.alloc (.cells #[.int .i64 0] 3)).far (At.apart hB10 hL3.car (by decide)) 1 (.slice (some ⟨x23, 0, none⟩) 1 1)
            replace hF2 := (hF2.alloc (Nat.le_trans hP1 hF2.size) (.cells #[.int .i64 0] 3)).grown (grown_put _ (m3 + 2) 1 (.slice (some ⟨x23, 0, none⟩) 1 1)) (by have := hF2.size; simp; omega) (fun b e => by cases e; omega)
            rw [← hx23]
            clear hx23
            obtain ⟨Wc, hWc⟩ : ∃ Wc, (Wb.alloc (.cells #[.int .i64 0] 3)).setCell ⟨m3 + 2, 1, none⟩ (.slice (some ⟨x23, 0, none⟩) 1 1) = Wc := ⟨_, rfl⟩
            rw [hWc] at hLO hB9 hB10 hF2 ⊢
            clear hWc hL3
            have u2 := (hB10.alloc (.cells #[.int .i64 5, .int .i64 16777217, .int .i64 5, .int .i64 0] 59)).cell 2
            have uf2 := (hB10.alloc (.cells #[.int .i64 5, .int .i64 16777217, .int .i64 5, .int .i64 0] 59)).free 2
            simp at u2
            go_upto_region 25 with fail
            clear u2 uf2
            obtain ⟨x24, hx24⟩ : ∃ x, x = Wc.heap.size := ⟨_, rfl⟩
            have hK := kept33_put (hB10.alloc (.cells #[.int .i64 5, .int .i64 16777217, .int .i64 5, .int .i64 0] 59)) 2 (.slice (some ⟨x24, 0, none⟩) 2 2)
            replace hLO := (hLO.below (below_alloc2 Wc (.cells #[.int .i64 5, .int .i64 16777217, .int .i64 5, .int .i64 0] 59))).k33 hK
            have hA24 := hK _ _ _ (At.new_ Wc 59 #[.int .i64 5, .int .i64 16777217, .int .i64 5, .int .i64 0] hx24) (by decide)
            replace hB9 := (hB9.alloc (.cells #[.int .i64 5, .int .i64 16777217, .int .i64 5, .int .i64 0] 59)).far n910 2 (.slice (some ⟨x24, 0, none⟩) 2 2)
            replace hB10 := (hB10.alloc (.cells #[.int .i64 5, .int .i64 16777217, .int .i64 5, .int .i64 0] 59)).put 2 (.slice (some ⟨x24, 0, none⟩) 2 2)
            simp at hB10
            replace hF2 := (hF2.alloc (Nat.le_trans hP1 hF2.size) (.cells #[.int .i64 5, .int .i64 16777217, .int .i64 5, .int .i64 0] 59)).grown (grown_put _ g10 2 (.slice (some ⟨x24, 0, none⟩) 2 2)) (by have := hF2.size; simp; omega) (fun b e => by cases e; exact hN10)
            rw [← hx24]
            clear hx24 hK
            obtain ⟨Wd, hWd⟩ : ∃ Wd, (Wc.alloc (.cells #[.int .i64 5, .int .i64 16777217, .int .i64 5, .int .i64 0] 59)).setCell ⟨g10, 2, none⟩ (.slice (some ⟨x24, 0, none⟩) 2 2) = Wd := ⟨_, rfl⟩
            rw [hWd] at hLO hA24 hB9 hB10 hF2 ⊢
            clear hWd
            go_wp2_with fail
            refine (least_any _).mono ?_
            rintro e We ⟨rfl, hL4, hs4, hb4⟩
            replace hLO := hLO.below hb4
            replace hA24 := hA24.keep hb4 hA24.inside
            replace hB9 := hB9.keep hb4 hB9.inside
            replace hB10 := hB10.keep hb4 hB10.inside
            replace hF2 := hF2.trans (hb4.mono (Nat.le_trans hP1 hF2.size))
            clear hs4 hb4
            obtain ⟨m4, hm4⟩ : ∃ x, x = Wd.heap.size := ⟨_, rfl⟩
            rw [← hm4] at hL4 ⊢
            clear hm4
            go_upto_region 26 with fail
            obtain ⟨g11, hg11⟩ : ∃ x, x = We.heap.size := ⟨_, rfl⟩
            have hB11 := At.new_ We 33 #[.slice none 0 0, .slice (some ⟨m4 + 2, 0, none⟩) 1 1, .slice none 0 0, .int .i64 1, .int .i64 1, .int .i64 0, .slice (some ⟨m4 + 3, 0, none⟩) 1 1] hg11
            have n911 : g9 ≠ g11 := by have := hB9.inside; omega
            have n1011 : g10 ≠ g11 := by have := hB10.inside; omega
            have hN11 : N2 ≤ g11 := by have := hF2.size; omega
            replace hLO := hLO.below (below_alloc2 We (.cells #[.slice none 0 0, .slice (some ⟨m4 + 2, 0, none⟩) 1 1, .slice none 0 0, .int .i64 1, .int .i64 1, .int .i64 0, .slice (some ⟨m4 + 3, 0, none⟩) 1 1] 33))
            replace hA24 := hA24.alloc (.cells #[.slice none 0 0, .slice (some ⟨m4 + 2, 0, none⟩) 1 1, .slice none 0 0, .int .i64 1, .int .i64 1, .int .i64 0, .slice (some ⟨m4 + 3, 0, none⟩) 1 1] 33)
            replace hB9 := hB9.alloc (.cells #[.slice none 0 0, .slice (some ⟨m4 + 2, 0, none⟩) 1 1, .slice none 0 0, .int .i64 1, .int .i64 1, .int .i64 0, .slice (some ⟨m4 + 3, 0, none⟩) 1 1] 33)
            replace hB10 := hB10.alloc (.cells #[.slice none 0 0, .slice (some ⟨m4 + 2, 0, none⟩) 1 1, .slice none 0 0, .int .i64 1, .int .i64 1, .int .i64 0, .slice (some ⟨m4 + 3, 0, none⟩) 1 1] 33)
            replace hL4 := hL4.keep (below_alloc2 We (.cells #[.slice none 0 0, .slice (some ⟨m4 + 2, 0, none⟩) 1 1, .slice none 0 0, .int .i64 1, .int .i64 1, .int .i64 0, .slice (some ⟨m4 + 3, 0, none⟩) 1 1] 33)) hL4.draw.inside
            replace hF2 := hF2.alloc (Nat.le_trans hP1 hF2.size) (.cells #[.slice none 0 0, .slice (some ⟨m4 + 2, 0, none⟩) 1 1, .slice none 0 0, .int .i64 1, .int .i64 1, .int .i64 0, .slice (some ⟨m4 + 3, 0, none⟩) 1 1] 33)
            rw [← hg11]
            clear hg11
            obtain ⟨Wf, hWf⟩ : ∃ Wf, We.alloc (.cells #[.slice none 0 0, .slice (some ⟨m4 + 2, 0, none⟩) 1 1, .slice none 0 0, .int .i64 1, .int .i64 1, .int .i64 0, .slice (some ⟨m4 + 3, 0, none⟩) 1 1] 33) = Wf := ⟨_, rfl⟩
            rw [hWf] at hLO hA24 hB9 hB10 hB11 hL4 hF2 ⊢
            clear hWf
            have u1 := hB11.cell 1
            have uf1 := hB11.free 1
            simp at u1
            have y0 := hL4.car.cell 0
            have yf0 := hL4.car.free 0
            have y1 := hL4.car.cell 1
            have yf1 := hL4.car.free 1
            simp at y0 y1
            have hT11 := ((hB11.alloc (.cells #[.int .i64 0, .int .i64 0, .int .i64 5, .int .i64 0, .int .i64 9, .int .i64 1024, .int .i64 0, .int .i64 0, .int .i64 0, .int .i64 0] 57)).alloc (.cells #[.int .i64 7] 3)).alloc (.cells #[.slice (some ⟨m4 + 1, 0, none⟩) 1 1, .slice none 0 0, .slice (some ⟨Wf.heap.size, 0, none⟩) 2 2, .slice (some ⟨Wf.heap.size + 1, 0, none⟩) 1 1] 53)
            have ua1 := hT11.cell 1
            have uaf1 := hT11.free 1
            simp at ua1
            go_upto_region 27 with fail
            clear u1 uf1
            clear y0 yf0 y1 yf1
            clear ua1 uaf1
            clear hT11
            obtain ⟨x26, hx26⟩ : ∃ x, x = Wf.heap.size := ⟨_, rfl⟩
            rw [← hx26]
            obtain ⟨Wt, hWt⟩ : ∃ Wt, (((Wf.alloc (.cells #[.int .i64 0, .int .i64 0, .int .i64 5, .int .i64 0, .int .i64 9, .int .i64 1024, .int .i64 0, .int .i64 0, .int .i64 0, .int .i64 0] 57)).alloc (.cells #[.int .i64 7] 3)).alloc (.cells #[.slice (some ⟨m4 + 1, 0, none⟩) 1 1, .slice none 0 0, .slice (some ⟨x26, 0, none⟩) 2 2, .slice (some ⟨x26 + 1, 0, none⟩) 1 1] 53)) = Wt := ⟨_, rfl⟩
            have hAv : At Wt x26 57 #[.int .i64 0, .int .i64 0, .int .i64 5, .int .i64 0, .int .i64 9, .int .i64 1024, .int .i64 0, .int .i64 0, .int .i64 0, .int .i64 0] := by rw [← hWt]; exact ((At.new_ _ _ _ hx26).alloc _).alloc _
            have hAo : At Wt (x26 + 1) 3 #[.int .i64 7] := by rw [← hWt]; exact (At.new_ _ _ _ (by simp [hx26])).alloc _
            have hAc : At Wt (x26 + 1 + 1) 53 #[.slice (some ⟨m4 + 1, 0, none⟩) 1 1, .slice none 0 0, .slice (some ⟨x26, 0, none⟩) 2 2, .slice (some ⟨x26 + 1, 0, none⟩) 1 1] := by rw [← hWt]; exact At.new_ _ _ _ (by simp [hx26])
            have hbt : Below Wf.heap.size Wf Wt := by rw [← hWt]; exact (((Below.refl _ _).alloc (Nat.le_refl _) _).alloc (by simp) _).alloc (by simp; omega) _
            rw [hWt]
            clear hWt hx26
            replace hLO := hLO.below hbt
            replace hA24 := hA24.keep hbt hA24.inside
            replace hB9 := hB9.keep hbt hB9.inside
            replace hB10 := hB10.keep hbt hB10.inside
            replace hB11 := hB11.keep hbt hB11.inside
            replace hL4 := hL4.keep hbt hL4.draw.inside
            replace hF2 := hF2.trans (hbt.mono (Nat.le_trans hP1 hF2.size))
            clear hbt
            have hK := kept33_put hB11 1 (.slice (some ⟨x26 + 1 + 1, 0, none⟩) 2 2)
            replace hLO := hLO.k33 hK
            replace hL4 := hL4.k33 hK
            replace hA24 := hK _ _ _ hA24 (by decide)
            replace hAv := hK _ _ _ hAv (by decide)
            replace hAo := hK _ _ _ hAo (by decide)
            replace hAc := hK _ _ _ hAc (by decide)
            replace hB9 := hB9.far n911 1 (.slice (some ⟨x26 + 1 + 1, 0, none⟩) 2 2)
            replace hB10 := hB10.far n1011 1 (.slice (some ⟨x26 + 1 + 1, 0, none⟩) 2 2)
            replace hF2 := hF2.grown (grown_put Wt g11 1 (.slice (some ⟨x26 + 1 + 1, 0, none⟩) 2 2)) (Nat.le_trans hP1 hF2.size) (fun b e => by cases e; exact hN11)
            replace hB11 := hB11.put 1 (.slice (some ⟨x26 + 1 + 1, 0, none⟩) 2 2)
            simp at hB11
            obtain ⟨Wg, hWx⟩ : ∃ X, Wt.setCell ⟨g11, 1, none⟩ (.slice (some ⟨x26 + 1 + 1, 0, none⟩) 2 2) = X := ⟨_, rfl⟩
            rw [hWx] at hLO hL4 hA24 hAv hAo hAc hB9 hB10 hB11 hF2 ⊢
            clear hWx hK
            have hB6g := hB6.keep hF2 (Nat.lt_of_lt_of_le hB6.inside hP2)
            have u6 := hB6g.cell 6
            have uf6 := hB6g.free 6
            simp at u6
            have v6 := hB11.cell 6
            have vf6 := hB11.free 6
            simp at v6
            go_upto_region 28 with fail
            clear u6 uf6
            clear v6 vf6
            clear hB6g
            have hK := kept33_put hB11 6 (.slice (some ⟨x19, 0, none⟩) 2 2)
            replace hLO := hLO.k33 hK
            replace hL4 := hL4.k33 hK
            replace hA24 := hK _ _ _ hA24 (by decide)
            replace hAv := hK _ _ _ hAv (by decide)
            replace hAo := hK _ _ _ hAo (by decide)
            replace hAc := hK _ _ _ hAc (by decide)
            replace hB9 := hB9.far n911 6 (.slice (some ⟨x19, 0, none⟩) 2 2)
            replace hB10 := hB10.far n1011 6 (.slice (some ⟨x19, 0, none⟩) 2 2)
            replace hF2 := hF2.grown (grown_put Wg g11 6 (.slice (some ⟨x19, 0, none⟩) 2 2)) (Nat.le_trans hP1 hF2.size) (fun b e => by cases e; exact hN11)
            replace hB11 := hB11.put 6 (.slice (some ⟨x19, 0, none⟩) 2 2)
            simp at hB11
            obtain ⟨Wh, hWx⟩ : ∃ X, Wg.setCell ⟨g11, 6, none⟩ (.slice (some ⟨x19, 0, none⟩) 2 2) = X := ⟨_, rfl⟩
            rw [hWx] at hLO hL4 hA24 hAv hAo hAc hB9 hB10 hB11 hF2 ⊢
            clear hWx hK
            have hbAll : Below wr.heap.size wr Wh := hbW.trans ((hE2.trans (hF2.mono hNN)).mono (Nat.le_trans hbW.size hN2))
            have hSk := (hSc.out.keep hbAll (Nat.le_refl _)).more hbAll.size
            obtain ⟨_, _, _, _, _, _, _, hbw⟩ := hk.out
            have hb1 : Below n1 w Wh := hbw.trans (hbAll.mono (by have := hbw.size; omega))
            have hgW : Hd Wh := hg'.out.keep hb1 (by omega)
            have hF3 : Below Wa.heap.size Wa Wh := hF2.mono hP2
            have hR16h := (hR16.keep hF3).row (rows10 65)
            have hR17h := (hR17.keep hF3).row (by decide +kernel)
            have hR18h := (hR18.keep hF3).row (by intro r hr; simp at hr; rcases hr with rfl | rfl <;> rfl)
            have hL1h := hL1.keep hF3 hL1.draw.inside
            have hL2h := hL2.keep hF3 hL2.draw.inside
            replace hB4 := hB4.keep hF3 hB4.inside
            replace hB5 := hB5.keep hF3 hB5.inside
            replace hB6 := hB6.keep hF3 hB6.inside
            replace hB7 := hB7.keep hF3 hB7.inside
            replace hB8 := hB8.keep hF3 hB8.inside
            have hSover : SceneAt Wh.heap.size Wh (.slice (some ⟨gO9, 0, none⟩) 65 cap9) (.slice (some ⟨n1 + 2, 0, none⟩) 1 1) (.slice (some ⟨gL, 0, none⟩) 16 capL) (.slice (some ⟨n1 + 3, 0, none⟩) 1 1) [(.slice (some ⟨n1 + 1, 0, none⟩) 1 1, own)] overS := ⟨hR16h, hSk.cars, hSk.lots, hSk.draws⟩
            have hSlots : SceneAt Wh.heap.size Wh (.slice (some ⟨n1 + 4 + 1, 0, none⟩) 64 64) (.slice (some ⟨n1 + 2, 0, none⟩) 1 1) (.slice (some ⟨gO7, 0, none⟩) 17 cap7) (.slice (some ⟨n1 + 3, 0, none⟩) 1 1) [(.slice (some ⟨n1 + 1, 0, none⟩) 1 1, own)] lotsS := ⟨hSk.reqs, hSk.cars, hR17h, hSk.draws⟩
            have hSfleet : SceneAt Wh.heap.size Wh (.slice none 0 0) (.slice (some ⟨x18, 0, none⟩) 2 2) (.slice none 0 0) (.slice (some ⟨x19, 0, none⟩) 2 2) [(.slice (some ⟨m1 + 1, 0, none⟩) 1 1, .slice none 0 0), (.slice none 0 0, .slice none 0 0)] fleetS := ⟨RowB.nil _ _ _, CarsAt.two hR18h (RowB.one hL1h.veh hL1h.veh.inside rfl) (RowB.nil _ _ _) (RowB.nil _ _ _) (RowB.nil _ _ _), RowB.nil _ _ _, ⟨_, 2, rfl, Nat.le_refl _, cap2⟩⟩
            have hSdraws : SceneAt Wh.heap.size Wh (.slice none 0 0) (.slice (some ⟨m2 + 2, 0, none⟩) 1 1) (.slice none 0 0) (.slice none 0 0) [(.slice (some ⟨m2 + 1, 0, none⟩) 1 1, .slice none 0 0)] drawsS := ⟨RowB.nil _ _ _, CarsAt.one (RowB.one hL2h.car hL2h.car.inside rfl) (RowB.one hL2h.veh hL2h.veh.inside rfl) (RowB.nil _ _ _), RowB.nil _ _ _, ⟨none, 0, rfl, Nat.le_refl _, Nat.zero_le _⟩⟩
            have hSlate : SceneAt Wh.heap.size Wh (.slice (some ⟨n1 + 4 + 1, 0, none⟩) 64 64) (.slice (some ⟨n1 + 2, 0, none⟩) 1 1) (.slice (some ⟨gL, 0, none⟩) 16 capL) (.slice (some ⟨n1 + 3, 0, none⟩) 1 1) [(.slice (some ⟨n1 + 1, 0, none⟩) 1 1, own)] lateS := ⟨hSk.reqs, hSk.cars, hSk.lots, hSk.draws⟩
            have hSnone : SceneAt Wh.heap.size Wh (.slice none 0 0) (.slice (some ⟨m3 + 2, 0, none⟩) 1 1) (.slice none 0 0) (.slice (some ⟨m3 + 3, 0, none⟩) 1 1) [(.slice (some ⟨m3 + 1, 0, none⟩) 1 1, .slice (some ⟨x23, 0, none⟩) 1 1)] noneS := ⟨RowB.nil _ _ _, CarsAt.one (RowB.one hLO.car hLO.car.inside rfl) (RowB.one hLO.veh hLO.veh.inside rfl) (RowB.one hLO.own hLO.own.inside rfl), RowB.nil _ _ _, draws1 _⟩
            have hSworth : SceneAt Wh.heap.size Wh (.slice (some ⟨n1 + 4 + 1, 0, none⟩) 64 64) (.slice (some ⟨n1 + 2, 0, none⟩) 1 1) (.slice (some ⟨x24, 0, none⟩) 2 2) (.slice (some ⟨n1 + 3, 0, none⟩) 1 1) [(.slice (some ⟨n1 + 1, 0, none⟩) 1 1, own)] worthS := ⟨hSk.reqs, hSk.cars, RowB.of_at (rows := [ltV ⟨5, 16777217⟩, ltV ⟨5, 0⟩]) hA24 hA24.inside (by intro r hr; simp at hr; rcases hr with rfl | rfl <;> rfl) (fun i u hu => by simpa [ltV] using hu) (Nat.le_refl _) cap2, hSk.draws⟩
            have hShome : SceneAt Wh.heap.size Wh (.slice none 0 0) (.slice (some ⟨x26 + 1 + 1, 0, none⟩) 2 2) (.slice none 0 0) (.slice (some ⟨x19, 0, none⟩) 2 2) [(.slice (some ⟨m4 + 1, 0, none⟩) 1 1, .slice none 0 0), (.slice (some ⟨x26, 0, none⟩) 2 2, .slice (some ⟨x26 + 1, 0, none⟩) 1 1)] homeS := ⟨RowB.nil _ _ _, CarsAt.two (RowB.of_at (rows := [[.slice (some ⟨m4 + 1, 0, none⟩) 1 1, .slice none 0 0], [.slice (some ⟨x26, 0, none⟩) 2 2, .slice (some ⟨x26 + 1, 0, none⟩) 1 1]]) hAc hAc.inside (by intro r hr; simp at hr; rcases hr with rfl | rfl <;> rfl) (fun i u hu => by simpa using hu) (Nat.le_refl _) cap2) (RowB.one hL4.veh hL4.veh.inside rfl) (RowB.nil _ _ _) (RowB.of_at (rows := [vhV ⟨0, 0, 5, 0, 9⟩, vhV ⟨1024, 0, 0, 0, 0⟩]) hAv hAv.inside (by intro r hr; simp at hr; rcases hr with rfl | rfl <;> rfl) (fun i u hu => by simpa [vhV] using hu) (Nat.le_refl _) cap2) (RowB.one hAo hAo.inside rfl), RowB.nil _ _ _, ⟨_, 2, rfl, Nat.le_refl _, cap2⟩⟩
            have hall := Lib.hid (And.intro hSover (And.intro hSlots (And.intro hSfleet (And.intro hSdraws (And.intro hSlate (And.intro hSnone (And.intro hSworth hShome)))))))
            have hgW' := Lib.hid hgW
            have hb1' := Lib.hid hb1
            have hposW := hgW.pos
            have hq4 := Lib.hid hB4
            have hq5 := Lib.hid hB5
            have hq6 := Lib.hid hB6
            have hq7 := Lib.hid hB7
            have hq8 := Lib.hid hB8
            have hq9 := Lib.hid hB9
            have hq10 := Lib.hid hB10
            have hq11 := Lib.hid hB11
            clear hSover hSlots hSfleet hSdraws hSlate hSnone hSworth hShome hbAll hSk hbw hb1 hgW hF3 hR16h hR17h hR18h hL1h hL2h hLO hL4 hA24 hAv hAo hAc hF2 hE2 hR16 hR17 hR18 hL1 hL2 hB4 hB5 hB6 hB7 hB8 hB9 hB10 hB11 hboxK hSc hk hltcK
            go_wp2_with fail
            refine (works_any _ hgW'.out).mono ?_
            rintro e V0 ⟨rfl, hc0⟩
            have hz := hq4.out.keep hc0 hq4.out.inside
            have t0 := hz.cell 0
            have t1 := hz.cell 1
            have t2 := hz.cell 2
            have t3 := hz.cell 3
            have t4 := hz.cell 4
            have t5 := hz.cell 5
            have t6 := hz.cell 6
            simp at t0 t1 t2 t3 t4 t5 t6
            clear hz
            go_wp2_with fail
            refine (fails_yes overS over_fair 11 0 0 over_f _ _ _ _ _ _ (hgW'.out.keep hc0 hposW) (((hall.out.1).keep hc0 (Nat.le_refl _)).more hc0.size)).mono ?_
            rintro e V1 ⟨rfl, hcn⟩
            have hc1 := hc0.trans (hcn.mono hc0.size)
            clear hcn t0 t1 t2 t3 t4 t5 t6
            have hz := hq5.out.keep hc1 hq5.out.inside
            have t0 := hz.cell 0
            have t1 := hz.cell 1
            have t2 := hz.cell 2
            have t3 := hz.cell 3
            have t4 := hz.cell 4
            have t5 := hz.cell 5
            have t6 := hz.cell 6
            simp at t0 t1 t2 t3 t4 t5 t6
            clear hz
            go_wp2_with fail
            refine (fails_yes lotsS lots_fair 11 0 0 lots_f _ _ _ _ _ _ (hgW'.out.keep hc1 hposW) (((hall.out.2.1).keep hc1 (Nat.le_refl _)).more hc1.size)).mono ?_
            rintro e V2 ⟨rfl, hcn⟩
            have hc2 := hc1.trans (hcn.mono hc1.size)
            clear hcn t0 t1 t2 t3 t4 t5 t6
            have hz := hq6.out.keep hc2 hq6.out.inside
            have t0 := hz.cell 0
            have t1 := hz.cell 1
            have t2 := hz.cell 2
            have t3 := hz.cell 3
            have t4 := hz.cell 4
            have t5 := hz.cell 5
            have t6 := hz.cell 6
            simp at t0 t1 t2 t3 t4 t5 t6
            clear hz
            go_wp2_with fail
            refine (fails_yes fleetS fleet_fair 11 0 1 fleet_f _ _ _ _ _ _ (hgW'.out.keep hc2 hposW) (((hall.out.2.2.1).keep hc2 (Nat.le_refl _)).more hc2.size)).mono ?_
            rintro e V3 ⟨rfl, hcn⟩
            have hc3 := hc2.trans (hcn.mono hc2.size)
            clear hcn t0 t1 t2 t3 t4 t5 t6
            have hz := hq7.out.keep hc3 hq7.out.inside
            have t0 := hz.cell 0
            have t1 := hz.cell 1
            have t2 := hz.cell 2
            have t3 := hz.cell 3
            have t4 := hz.cell 4
            have t5 := hz.cell 5
            have t6 := hz.cell 6
            simp at t0 t1 t2 t3 t4 t5 t6
            clear hz
            go_wp2_with fail
            refine (fails_yes drawsS draws_fair 11 0 0 draws_f _ _ _ _ _ _ (hgW'.out.keep hc3 hposW) (((hall.out.2.2.2.1).keep hc3 (Nat.le_refl _)).more hc3.size)).mono ?_
            rintro e V4 ⟨rfl, hcn⟩
            have hc4 := hc3.trans (hcn.mono hc3.size)
            clear hcn t0 t1 t2 t3 t4 t5 t6
            have hz := hq8.out.keep hc4 hq8.out.inside
            have t0 := hz.cell 0
            have t1 := hz.cell 1
            have t2 := hz.cell 2
            have t3 := hz.cell 3
            have t4 := hz.cell 4
            have t5 := hz.cell 5
            have t6 := hz.cell 6
            simp at t0 t1 t2 t3 t4 t5 t6
            clear hz
            go_wp2_with fail
            refine (fails_yes lateS late_fair 2 0 0 late_f _ _ _ _ _ _ (hgW'.out.keep hc4 hposW) (((hall.out.2.2.2.2.1).keep hc4 (Nat.le_refl _)).more hc4.size)).mono ?_
            rintro e V5 ⟨rfl, hcn⟩
            have hc5 := hc4.trans (hcn.mono hc4.size)
            clear hcn t0 t1 t2 t3 t4 t5 t6
            have hz := hq9.out.keep hc5 hq9.out.inside
            have t0 := hz.cell 0
            have t1 := hz.cell 1
            have t2 := hz.cell 2
            have t3 := hz.cell 3
            have t4 := hz.cell 4
            have t5 := hz.cell 5
            have t6 := hz.cell 6
            simp at t0 t1 t2 t3 t4 t5 t6
            clear hz
            go_wp2_with fail
            refine (fails_yes noneS none_fair 12 2 0 none_f _ _ _ _ _ _ (hgW'.out.keep hc5 hposW) (((hall.out.2.2.2.2.2.1).keep hc5 (Nat.le_refl _)).more hc5.size)).mono ?_
            rintro e V6 ⟨rfl, hcn⟩
            have hc6 := hc5.trans (hcn.mono hc5.size)
            clear hcn t0 t1 t2 t3 t4 t5 t6
            have hz := hq10.out.keep hc6 hq10.out.inside
            have t0 := hz.cell 0
            have t1 := hz.cell 1
            have t2 := hz.cell 2
            have t3 := hz.cell 3
            have t4 := hz.cell 4
            have t5 := hz.cell 5
            have t6 := hz.cell 6
            simp at t0 t1 t2 t3 t4 t5 t6
            clear hz
            go_wp2_with fail
            refine (fails_yes worthS worth_fair 3 3 0 worth_f _ _ _ _ _ _ (hgW'.out.keep hc6 hposW) (((hall.out.2.2.2.2.2.2.1).keep hc6 (Nat.le_refl _)).more hc6.size)).mono ?_
            rintro e V7 ⟨rfl, hcn⟩
            have hc7 := hc6.trans (hcn.mono hc6.size)
            clear hcn t0 t1 t2 t3 t4 t5 t6
            have hz := hq11.out.keep hc7 hq11.out.inside
            have t0 := hz.cell 0
            have t1 := hz.cell 1
            have t2 := hz.cell 2
            have t3 := hz.cell 3
            have t4 := hz.cell 4
            have t5 := hz.cell 5
            have t6 := hz.cell 6
            simp at t0 t1 t2 t3 t4 t5 t6
            clear hz
            go_wp2_with fail
            refine (fails_yes homeS home_fair 4 2 1 home_f _ _ _ _ _ _ (hgW'.out.keep hc7 hposW) (((hall.out.2.2.2.2.2.2.2).keep hc7 (Nat.le_refl _)).more hc7.size)).mono ?_
            rintro e V8 ⟨rfl, hcn⟩
            have hc8 := hc7.trans (hcn.mono hc7.size)
            clear hcn t0 t1 t2 t3 t4 t5 t6
            go_wp2_with fail
            refine (Owners_any emptyS empty_fair (.slice none 0 0) (.slice none 0 0) (.slice none 0 0) (.slice none 0 0) [] 0 0 0 (by decide) _ ⟨RowB.nil _ _ _, CarsAt.nil _ _, RowB.nil _ _ _, ⟨none, 0, rfl, Nat.le_refl _, Nat.zero_le _⟩⟩).mono ?_
            rintro e V9 ⟨⟨u, rfl, hu⟩, hcn⟩
            obtain ⟨xu, cu, rfl, _, _, _⟩ := hu
            rw [empty_own]
            have hB := (hb1'.out.trans ((hc8.trans (hcn.mono hc8.size)).mono (by have := hb1'.out.size; omega))).mono (by omega : w.heap.size ≤ n1)
            go_wp2
            go_ret
            exact ⟨rfl, hB⟩
end Go.Proofs.YtlkijbakfoabaaaDoor.Scene

/-
  The laws' own 'works': the chapter's examples hold.
-/
import Derived.Test.YtlkijbakfoabaaaDoorSceneMk
import Derived.Deep.CutRange
namespace Go.Proofs.YtlkijbakfoabaaaDoor.Scene
open Go.RowKit Go.Proofs.YtlkijbakfoabaaaDoor.Mem
set_option linter.unusedVariables false

def aS : Sc := ⟨[oneQ], [⟨[leastV], []⟩], [], 1, 1, 0, 1⟩
def bS : Sc := ⟨[oneQ], [⟨[leastV], [0]⟩], [⟨0, 0⟩, ⟨0, 0⟩], 1, 1, 0, 1⟩
def cS : Sc := ⟨[], [], [], 1, 1, 0, 1⟩
def dS : Sc := ⟨[], [⟨[leastV], []⟩], [], 0, 1, 0, 1⟩
theorem least_f : faultV leastS = (0, 0, 0) := by decide
theorem a_f : faultV aS = (11, 2, 0) := by decide
theorem b_f : faultV bS = (13, 3, 1) := by decide
theorem c_f : faultV cS = (11, 0, 0) := by decide
theorem d_f : faultV dS = (2, 0, 0) := by decide
theorem fair_of {s : Sc} (h1 : ∀ c ∈ s.cars, ∀ r ∈ c.own, 0 ≤ r ∧ r < 1000000) (h2 : ∀ l ∈ s.lots, 0 ≤ l.req ∧ l.req < 1000000) (h3 : (pairsL 0 s.cars).length < 1000000) (h4 : s.lots.length < 1000000) (h5 : s.reqs.length < 1000000) (h6 : s.cars.length < 1000000) : Fair s :=
  ⟨fun c hc r hr => ⟨by have := h1 c hc r hr; omega, by have := h1 c hc r hr; omega⟩, fun l hl => ⟨by have := h2 l hl; omega, by have := h2 l hl; omega⟩, by omega, by omega, by omega, by omega⟩
theorem least_fair : Fair leastS := fair_of (by decide) (by decide) (by decide) (by decide) (by decide) (by decide)
theorem a_fair : Fair aS := fair_of (by decide) (by decide) (by decide) (by decide) (by decide) (by decide)
theorem b_fair : Fair bS := fair_of (by decide) (by decide) (by decide) (by decide) (by decide) (by decide)
theorem c_fair : Fair cS := fair_of (by decide) (by decide) (by decide) (by decide) (by decide) (by decide)
theorem d_fair : Fair dS := fair_of (by decide) (by decide) (by decide) (by decide) (by decide) (by decide)

theorem draws1 (n : Nat) : ∃ x cap, (Value.slice (some ⟨n, 0, none⟩) 1 1) = .slice x 1 cap ∧ 1 ≤ cap ∧ cap ≤ maxLen := ⟨_, 1, rfl, Nat.le_refl _, by unfold maxLen; simp⟩
theorem cap1 : 1 ≤ maxLen := by unfold maxLen; simp

/-- The scenes of the examples, out of what has been laid. -/
theorem scene_least {W : World} {n : Nat} (h : LeastAt W n) : SceneAt W.heap.size W (.slice none 0 0) (.slice (some ⟨n + 2, 0, none⟩) 1 1) (.slice none 0 0) (.slice (some ⟨n + 3, 0, none⟩) 1 1) [(.slice (some ⟨n + 1, 0, none⟩) 1 1, .slice none 0 0)] leastS :=
  ⟨RowB.nil _ _ _, CarsAt.one (RowB.one h.car h.car.inside rfl) (RowB.one h.veh h.veh.inside rfl) (RowB.nil _ _ _), RowB.nil _ _ _, draws1 _⟩
theorem scene_d {W : World} {n : Nat} (h : LeastAt W n) : SceneAt W.heap.size W (.slice none 0 0) (.slice (some ⟨n + 2, 0, none⟩) 1 1) (.slice none 0 0) (.slice (some ⟨n + 3, 0, none⟩) 1 1) [(.slice (some ⟨n + 1, 0, none⟩) 1 1, .slice none 0 0)] dS :=
  ⟨RowB.nil _ _ _, CarsAt.one (RowB.one h.car h.car.inside rfl) (RowB.one h.veh h.veh.inside rfl) (RowB.nil _ _ _), RowB.nil _ _ _, draws1 _⟩
theorem scene_c {W : World} {n : Nat} (h : LeastAt W n) : SceneAt W.heap.size W (.slice none 0 0) (.slice none 0 0) (.slice none 0 0) (.slice (some ⟨n + 3, 0, none⟩) 1 1) [] cS :=
  ⟨RowB.nil _ _ _, CarsAt.nil _ _, RowB.nil _ _ _, draws1 _⟩
theorem scene_a {W : World} {n g : Nat} {t : TypeId} (h : LeastAt W n) (hq : At W g t (rqV oneQ).toArray) : SceneAt W.heap.size W (.slice (some ⟨g, 0, none⟩) 1 1) (.slice (some ⟨n + 2, 0, none⟩) 1 1) (.slice none 0 0) (.slice (some ⟨n + 3, 0, none⟩) 1 1) [(.slice (some ⟨n + 1, 0, none⟩) 1 1, .slice none 0 0)] aS :=
  ⟨RowB.one hq hq.inside rfl, CarsAt.one (RowB.one h.car h.car.inside rfl) (RowB.one h.veh h.veh.inside rfl) (RowB.nil _ _ _), RowB.nil _ _ _, draws1 _⟩
/-- What least() lays, with one request owned (block o). -/
structure LeastOwn (W : World) (n o : Nat) : Prop where
  veh : At W (n + 1) 57 #[.int .i64 0, .int .i64 0, .int .i64 5, .int .i64 0, .int .i64 99]
  car : At W (n + 2) 53 #[.slice (some ⟨n + 1, 0, none⟩) 1 1, .slice (some ⟨o, 0, none⟩) 1 1]
  draw : At W (n + 3) 73 #[.slice none 0 0]
  own : At W o 3 #[.int .i64 0]
theorem LeastOwn.keep {W V : World} {n o B : Nat} (h : LeastOwn W n o) (hb : Below B W V) (hB : n + 3 < B) (ho : o < B) : LeastOwn V n o := ⟨h.veh.keep hb (by omega), h.car.keep hb (by omega), h.draw.keep hb hB, h.own.keep hb ho⟩
theorem scene_b {W : World} {n g o l : Nat} {t t2 : TypeId} (h : LeastOwn W n o) (hq : At W g t (rqV oneQ).toArray) (hl : At W l t2 #[.int .i64 0, .int .i64 0, .int .i64 0, .int .i64 0]) :
    SceneAt W.heap.size W (.slice (some ⟨g, 0, none⟩) 1 1) (.slice (some ⟨n + 2, 0, none⟩) 1 1) (.slice (some ⟨l, 0, none⟩) 2 2) (.slice (some ⟨n + 3, 0, none⟩) 1 1) [(.slice (some ⟨n + 1, 0, none⟩) 1 1, .slice (some ⟨o, 0, none⟩) 1 1)] bS :=
  ⟨RowB.one hq hq.inside rfl, CarsAt.one (RowB.one h.car h.car.inside rfl) (RowB.one h.veh h.veh.inside rfl) (RowB.one h.own h.own.inside rfl),
    RowB.of_at (rows := [ltV ⟨0, 0⟩, ltV ⟨0, 0⟩]) hl hl.inside (by intro r hr; simp at hr; subst hr; rfl) (fun i u hu => by simpa [ltV] using hu) (Nat.le_refl _) (by unfold maxLen; simp), draws1 _⟩

end Go.Proofs.YtlkijbakfoabaaaDoor.Scene

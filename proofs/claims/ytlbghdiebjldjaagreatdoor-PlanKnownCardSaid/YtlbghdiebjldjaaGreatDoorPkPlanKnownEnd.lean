import Derived.Test.YtlbghdiebjldjaaGreatDoorPkClose

namespace Go.Proofs.YtlbghdiebjldjaaGreatDoor.Plan
open Go.RowKit Go.Sort Go.Proofs.YtlbghdiebjldjaaGreatDoor.Mem Go.Proofs.YtlbghdiebjldjaaGreatDoor.Route Go.Proofs.YtlbghdiebjldjaaGreatDoor.When Go.Proofs.YtlbghdiebjldjaaGreatDoor.Load Go.Proofs.YtlbghdiebjldjaaGreatDoor.Ins Go.Proofs.YtlbghdiebjldjaaGreatDoor.Feas
set_option linter.unusedVariables false
theorem info_req13K : (Tryz.prog.info? 72).map (fun i => (i.zero, i.size, i.bytes)) = some (some (.agg #[.int .i64 0, .int .i64 0, .int .i64 0, .int .i64 0, .int .i64 0, .int .i64 0, .int .i64 0, .int .i64 0, .int .i64 0, .int .i64 0]), 10, 80) := by kernel_rfl
def v0 : Vh := ⟨0, 0, 0, 0, 0⟩
def rz : Rq := ⟨0, 0, 0, 0, 0, 0, 0, 0, 0, 0⟩
def rqX : Rq := ⟨900, 0, 0, 0, 0, 0, 0, 0, 1, 0⟩
def knV : List Vh := [vA, vA]
def knT : List Rq := [rq0, rq0, rqX]
def kn0 : St := newS knV knT
theorem kn_e1 : newE [vA, vA, vA, vA, v0] chT = 11 := by decide +kernel
theorem kn_e2 : newE [vA, v0] chT = 2 := by decide +kernel
theorem kn_e3 : newE chV [rz] = 2 := by decide +kernel
theorem kn_e4 : newE knV knT = 0 := by decide +kernel
theorem kn_ok : Ok kn0 := new_Ok (by decide) (by decide) (by decide +kernel) (by decide +kernel)
theorem kn_p2 : priceI kn0 2 = 0 ∧ priceN kn0 2 = 0 ∧ priceE kn0 2 = 12 := by decide +kernel
theorem kn_p1 : priceI kn0 1 = 0 ∧ priceN kn0 1 = 20 ∧ priceE kn0 1 = 0 := by decide +kernel
theorem kn_tk : takeE kn0 (-1) = 12 ∧ whereV kn0.rows 7 = -1 ∧ totS kn0 = 0 := by decide +kernel
theorem kn_ts : takeS kn0 (-1) = kn0 := takeS_no (by decide +kernel)
theorem nil_price (r : Int) (w : World) : Calls Tryz.prog 23 #[.pointer none, .int .i64 r] w fun e w' => e = .returned (.tuple #[.int .i64 0, .int .i64 0, .int .i64 1]) ∧ w' = w := by
 go_enter Tryz.func23, Tryz.ntmps23
 go_wp2
 refine bodyPost_ret (v := .tuple #[.int .i64 0, .int .i64 0, .int .i64 1]) (by simp [results, Tryz.results23, go_sem]) rfl ?_
 exact ⟨rfl, rfl⟩
theorem nil_take (r : Int) (w : World) : Calls Tryz.prog 19 #[.pointer none, .int .i64 r] w fun e w' => e = .returned (.int .i64 1) ∧ w' = w := by
 go_enter Tryz.func19, Tryz.ntmps19
 go_wp2
 go_ret
 exact ⟨rfl, rfl⟩
theorem nil_where (r : Int) (w : World) : Calls Tryz.prog 30 #[.pointer none, .int .i64 r] w fun e w' => e = .returned (.int .i64 (-1)) ∧ w' = w := by
 go_enter Tryz.func30, Tryz.ntmps30
 go_wp2
 go_ret
 exact ⟨rfl, rfl⟩
theorem nil_all (w : World) : Calls Tryz.prog 26 #[.pointer none] w fun e w' => e = .returned (.slice none 0 0) ∧ w' = w := by
 go_enter Tryz.func26, Tryz.ntmps26
 go_wp2
 go_ret
 exact ⟨rfl, rfl⟩
theorem nil_routes (w : World) : Calls Tryz.prog 24 #[.pointer none] w fun e w' => e = .returned (.slice none 0 0) ∧ w' = w := by
 go_enter Tryz.func24, Tryz.ntmps24
 go_wp2
 go_ret
 exact ⟨rfl, rfl⟩
theorem nil_total (w : World) : Calls Tryz.prog 17 #[.pointer none] w fun e w' => e = .returned (.int .i64 0) ∧ w' = w := by
 go_enter Tryz.func17, Tryz.ntmps17
 go_wp2
 go_ret
 exact ⟨rfl, rfl⟩
theorem nil_copy (w : World) : Calls Tryz.prog 14 #[.pointer none] w fun e w' => e = .returned (.pointer none) ∧ w' = w := by
 go_enter Tryz.func14, Tryz.ntmps14
 go_wp2
 go_ret
 exact ⟨rfl, rfl⟩
theorem nil_has (r : Int) (w : World) : Calls Tryz.prog 18 #[.pointer none, .int .i64 r] w fun e w' => e = .returned (.bool false) ∧ w' = w := by
 have hW := nil_where r w
 go_enter Tryz.func18, Tryz.ntmps18
 go_wp2_with fail
 refine hW.mono ?_
 clear hW
 rintro e w2 ⟨rfl, rfl⟩
 go_wp2
 go_ret
 exact ⟨rfl, rfl⟩
theorem nil_put (r : Int) (w : World) : Calls Tryz.prog 20 #[.pointer none, .int .i64 r] w fun e w' => e = .returned (.tuple #[.int .i64 0, .int .i64 1]) ∧ w' = w := by
 have hW := nil_price r w
 go_enter Tryz.func20, Tryz.ntmps20
 go_wp2_with fail
 refine hW.mono ?_
 clear hW
 rintro e w2 ⟨rfl, rfl⟩
 go_wp2
 refine bodyPost_ret (v := .tuple #[.int .i64 0, .int .i64 1]) (by simp [results, Tryz.results20, go_sem]) rfl ?_
 exact ⟨rfl, rfl⟩
theorem rowFrom {B : Nat} {W : World} {g o n cap m k : Nat} {rows : List (List Value)} (h : RowB B W (.slice (some ⟨g, o, none⟩) n cap) m rows) (hk : k ≤ n) : RowB B W (.slice (some ⟨g, o + k * m, none⟩) (n - k) (cap - k)) m (rows.drop k) := by
 obtain ⟨x, c, e, h1, h2, h0, h3⟩ := h
 cases e
 refine ⟨some ⟨g, o + k * m, none⟩, cap - k, by simp, by simp; omega, by omega, fun e => (by cases e), fun j r hj => ?_⟩
 rw [List.getElem?_drop] at hj
 obtain ⟨g', o', e, hg, hc⟩ := h3 (k + j) r hj
 cases e
 refine ⟨g, o + k * m, rfl, hg, fun i u hi => ?_⟩
 have := hc i u hi
 rw [show o + k * m + j * m + i = o + (k + j) * m + i by rw [Nat.add_mul]; omega]
 exact this
def rqC (q : Rq) : Array Value := #[.int .i64 q.fx, .int .i64 q.fy, .int .i64 q.tx, .int .i64 q.ty, .int .i64 q.pe, .int .i64 q.pl, .int .i64 q.de, .int .i64 q.dl, .int .i64 q.ld, .int .i64 q.sv]
def knC : Array Value := #[.int .i64 5, .int .i64 0, .int .i64 9, .int .i64 0, .int .i64 0, .int .i64 20, .int .i64 0, .int .i64 30, .int .i64 3, .int .i64 1, .int .i64 5, .int .i64 0, .int .i64 9, .int .i64 0, .int .i64 0, .int .i64 20, .int .i64 0, .int .i64 30, .int .i64 3, .int .i64 1]
def knX : Array Value := #[.int .i64 900, .int .i64 0, .int .i64 0, .int .i64 0, .int .i64 0, .int .i64 0, .int .i64 0, .int .i64 0, .int .i64 1, .int .i64 0]
def knA : Array Value := #[.int .i64 0, .int .i64 0, .int .i64 5, .int .i64 0, .int .i64 40, .int .i64 0, .int .i64 0, .int .i64 5, .int .i64 0, .int .i64 40]
def KnTwo (M : Nat) (p : Nat) (W : World) : Prop := ∃ G : Nat → Prop, (∀ k, G k → M ≤ k) ∧ PlanAt G G W p kn0
theorem KnTwo.on {M p : Nat} {W W' : World} (h : KnTwo M p W) (hb : Below W.heap.size W W') : KnTwo M p W' := by
 obtain ⟨G, h1, h2⟩ := h
 exact ⟨G, h1, h2.chg (E := fun _ => False) (Chg.of_below hb) (fun k he => he.elim)⟩
def KnEmpty (M : Nat) (v : Value) (W : World) : Prop := EmptyAt M 72 10 v W
def KnBlock (M n : Nat) (cs : Array Value) (v : Value) (W : World) : Prop := ∃ g : Nat, v = .slice (some ⟨g, 0, none⟩) n n ∧ M ≤ g ∧ At W g 72 cs
def KnRow (M n : Nat) (l : List Rq) (v : Value) (W : World) : Prop := W.ownsRow M 72 10 v n (flatQ l)
theorem KnBlock.on {M n : Nat} {cs : Array Value} {v : Value} {W W' : World} (h : KnBlock M n cs v W) (hb : Below W.heap.size W W') : KnBlock M n cs v W' := by
 obtain ⟨g, h1, h2, h3⟩ := h
 exact ⟨g, h1, h2, h3.keep hb h3.inside⟩
def knR (p : Nat) : Value := .tuple #[.pointer (some ⟨p, 0, none⟩), .int .i64 0]
def knP (p : Nat) : Value := .pointer (some ⟨p, 0, none⟩)
structure ZN (M : Nat) (done : Nat → Bool) (ys : Nat → Value) (W : World) : Prop where
 b : done 7 = true → done 15 = false → KnEmpty M (ys 7) W
 c : done 14 = true → done 15 = false → KnBlock M 2 knC (ys 14) W
 d : done 15 = true → done 19 = false → KnRow M 2 [rq0, rq0] (ys 15) W
 e : done 18 = true → done 19 = false → KnBlock M 1 knX (ys 18) W
 f : done 19 = true → KnRow M 3 knT (ys 19) W
 g : done 20 = true → ∃ p, KnTwo M p W ∧ ys 20 = knR p ∧ (done 21 = true → ys 21 = knR p) ∧ (done 22 = true → ys 22 = knP p) ∧ (done 24 = true → ys 24 = knP p)
 w : done 20 = false → done 21 = false ∧ done 22 = false ∧ done 24 = false
 x : done 19 = false → done 20 = false
section
variable {M : Nat} {done : Nat → Bool} {ys : Nat → Value} {W W' : World} {v : Value}
theorem ZN.start (ys : Nat → Value) (W : World) : ZN M (fun _ => false) ys W := ⟨fun h => (by cases h), fun h => (by cases h), fun h => (by cases h), fun h => (by cases h), fun h => (by cases h), fun h => (by cases h), fun _ => ⟨rfl, rfl, rfl⟩, fun _ => rfl⟩
theorem ZN.on (h : ZN M done ys W) (hb : Below W.heap.size W W') : ZN M done ys W' :=
 ⟨fun h1 h2 => EmptyAt.keep (h.b h1 h2) hb, fun h1 h2 => (h.c h1 h2).on hb, fun h1 h2 => owns_below (h.d h1 h2) hb, fun h1 h2 => (h.e h1 h2).on hb, fun h1 => owns_below (h.f h1) hb, fun h1 => by
  obtain ⟨p, h2, h3⟩ := h.g h1
  exact ⟨p, h2.on hb, h3⟩, h.w, h.x⟩
theorem ZN.p7 (h : ZN M done ys W) (hv : KnEmpty M v W) : ZN M (Sched.mark done 7) (Sched.upd ys 7 v) W :=
 ⟨(fun _ _ => by rw [upd_eq]; exact hv),
  (fun h1 h2 => by rw [Plan.mark_ne (by decide)] at h1; rw [Plan.mark_ne (by decide)] at h2; rw [Plan.upd_ne (by decide)]; exact h.c h1 h2),
  (fun h1 h2 => by rw [Plan.mark_ne (by decide)] at h1; rw [Plan.mark_ne (by decide)] at h2; rw [Plan.upd_ne (by decide)]; exact h.d h1 h2),
  (fun h1 h2 => by rw [Plan.mark_ne (by decide)] at h1; rw [Plan.mark_ne (by decide)] at h2; rw [Plan.upd_ne (by decide)]; exact h.e h1 h2),
  (fun h1 => by rw [Plan.mark_ne (by decide)] at h1; rw [Plan.upd_ne (by decide)]; exact h.f h1),
  (fun h1 => by rw [Plan.mark_ne (by decide)] at h1; obtain ⟨p, h2, h3, h4, h5, h6⟩ := h.g h1; exact ⟨p, h2, by rw [Plan.upd_ne (by decide)]; exact h3, fun h1 => by rw [Plan.mark_ne (by decide)] at h1; rw [Plan.upd_ne (by decide)]; exact h4 h1, fun h1 => by rw [Plan.mark_ne (by decide)] at h1; rw [Plan.upd_ne (by decide)]; exact h5 h1, fun h1 => by rw [Plan.mark_ne (by decide)] at h1; rw [Plan.upd_ne (by decide)]; exact h6 h1⟩),
  (fun h1 => by rw [Plan.mark_ne (by decide)] at h1; rw [Plan.mark_ne (by decide), Plan.mark_ne (by decide), Plan.mark_ne (by decide)]; exact h.w h1),
  (fun h1 => by rw [Plan.mark_ne (by decide)] at h1; rw [Plan.mark_ne (by decide)]; exact h.x h1)⟩
theorem ZN.p14 (h : ZN M done ys W) (hv : KnBlock M 2 knC v W) : ZN M (Sched.mark done 14) (Sched.upd ys 14 v) W :=
 ⟨(fun h1 h2 => by rw [Plan.mark_ne (by decide)] at h1; rw [Plan.mark_ne (by decide)] at h2; rw [Plan.upd_ne (by decide)]; exact h.b h1 h2),
  (fun _ _ => by rw [upd_eq]; exact hv),
  (fun h1 h2 => by rw [Plan.mark_ne (by decide)] at h1; rw [Plan.mark_ne (by decide)] at h2; rw [Plan.upd_ne (by decide)]; exact h.d h1 h2),
  (fun h1 h2 => by rw [Plan.mark_ne (by decide)] at h1; rw [Plan.mark_ne (by decide)] at h2; rw [Plan.upd_ne (by decide)]; exact h.e h1 h2),
  (fun h1 => by rw [Plan.mark_ne (by decide)] at h1; rw [Plan.upd_ne (by decide)]; exact h.f h1),
  (fun h1 => by rw [Plan.mark_ne (by decide)] at h1; obtain ⟨p, h2, h3, h4, h5, h6⟩ := h.g h1; exact ⟨p, h2, by rw [Plan.upd_ne (by decide)]; exact h3, fun h1 => by rw [Plan.mark_ne (by decide)] at h1; rw [Plan.upd_ne (by decide)]; exact h4 h1, fun h1 => by rw [Plan.mark_ne (by decide)] at h1; rw [Plan.upd_ne (by decide)]; exact h5 h1, fun h1 => by rw [Plan.mark_ne (by decide)] at h1; rw [Plan.upd_ne (by decide)]; exact h6 h1⟩),
  (fun h1 => by rw [Plan.mark_ne (by decide)] at h1; rw [Plan.mark_ne (by decide), Plan.mark_ne (by decide), Plan.mark_ne (by decide)]; exact h.w h1),
  (fun h1 => by rw [Plan.mark_ne (by decide)] at h1; rw [Plan.mark_ne (by decide)]; exact h.x h1)⟩
theorem ZN.p15 (h : ZN M done ys W) (hv : KnRow M 2 [rq0, rq0] v W) : ZN M (Sched.mark done 15) (Sched.upd ys 15 v) W :=
 ⟨(fun _ h2 => by rw [Plan.mark_eq] at h2; cases h2),
  (fun _ h2 => by rw [Plan.mark_eq] at h2; cases h2),
  (fun _ _ => by rw [upd_eq]; exact hv),
  (fun h1 h2 => by rw [Plan.mark_ne (by decide)] at h1; rw [Plan.mark_ne (by decide)] at h2; rw [Plan.upd_ne (by decide)]; exact h.e h1 h2),
  (fun h1 => by rw [Plan.mark_ne (by decide)] at h1; rw [Plan.upd_ne (by decide)]; exact h.f h1),
  (fun h1 => by rw [Plan.mark_ne (by decide)] at h1; obtain ⟨p, h2, h3, h4, h5, h6⟩ := h.g h1; exact ⟨p, h2, by rw [Plan.upd_ne (by decide)]; exact h3, fun h1 => by rw [Plan.mark_ne (by decide)] at h1; rw [Plan.upd_ne (by decide)]; exact h4 h1, fun h1 => by rw [Plan.mark_ne (by decide)] at h1; rw [Plan.upd_ne (by decide)]; exact h5 h1, fun h1 => by rw [Plan.mark_ne (by decide)] at h1; rw [Plan.upd_ne (by decide)]; exact h6 h1⟩),
  (fun h1 => by rw [Plan.mark_ne (by decide)] at h1; rw [Plan.mark_ne (by decide), Plan.mark_ne (by decide), Plan.mark_ne (by decide)]; exact h.w h1),
  (fun h1 => by rw [Plan.mark_ne (by decide)] at h1; rw [Plan.mark_ne (by decide)]; exact h.x h1)⟩
theorem ZN.p18 (h : ZN M done ys W) (hv : KnBlock M 1 knX v W) : ZN M (Sched.mark done 18) (Sched.upd ys 18 v) W :=
 ⟨(fun h1 h2 => by rw [Plan.mark_ne (by decide)] at h1; rw [Plan.mark_ne (by decide)] at h2; rw [Plan.upd_ne (by decide)]; exact h.b h1 h2),
  (fun h1 h2 => by rw [Plan.mark_ne (by decide)] at h1; rw [Plan.mark_ne (by decide)] at h2; rw [Plan.upd_ne (by decide)]; exact h.c h1 h2),
  (fun h1 h2 => by rw [Plan.mark_ne (by decide)] at h1; rw [Plan.mark_ne (by decide)] at h2; rw [Plan.upd_ne (by decide)]; exact h.d h1 h2),
  (fun _ _ => by rw [upd_eq]; exact hv),
  (fun h1 => by rw [Plan.mark_ne (by decide)] at h1; rw [Plan.upd_ne (by decide)]; exact h.f h1),
  (fun h1 => by rw [Plan.mark_ne (by decide)] at h1; obtain ⟨p, h2, h3, h4, h5, h6⟩ := h.g h1; exact ⟨p, h2, by rw [Plan.upd_ne (by decide)]; exact h3, fun h1 => by rw [Plan.mark_ne (by decide)] at h1; rw [Plan.upd_ne (by decide)]; exact h4 h1, fun h1 => by rw [Plan.mark_ne (by decide)] at h1; rw [Plan.upd_ne (by decide)]; exact h5 h1, fun h1 => by rw [Plan.mark_ne (by decide)] at h1; rw [Plan.upd_ne (by decide)]; exact h6 h1⟩),
  (fun h1 => by rw [Plan.mark_ne (by decide)] at h1; rw [Plan.mark_ne (by decide), Plan.mark_ne (by decide), Plan.mark_ne (by decide)]; exact h.w h1),
  (fun h1 => by rw [Plan.mark_ne (by decide)] at h1; rw [Plan.mark_ne (by decide)]; exact h.x h1)⟩
theorem ZN.p20 (h : ZN M done ys W) (hn : done 20 = false) (h19 : done 19 = true) {p : Nat} (hp : KnTwo M p W) (hv : v = knR p) : ZN M (Sched.mark done 20) (Sched.upd ys 20 v) W :=
 ⟨(fun h1 h2 => by rw [Plan.mark_ne (by decide)] at h1; rw [Plan.mark_ne (by decide)] at h2; rw [Plan.upd_ne (by decide)]; exact h.b h1 h2),
  (fun h1 h2 => by rw [Plan.mark_ne (by decide)] at h1; rw [Plan.mark_ne (by decide)] at h2; rw [Plan.upd_ne (by decide)]; exact h.c h1 h2),
  (fun h1 h2 => by rw [Plan.mark_ne (by decide)] at h1; rw [Plan.mark_ne (by decide)] at h2; rw [Plan.upd_ne (by decide)]; exact h.d h1 h2),
  (fun h1 h2 => by rw [Plan.mark_ne (by decide)] at h1; rw [Plan.mark_ne (by decide)] at h2; rw [Plan.upd_ne (by decide)]; exact h.e h1 h2),
  (fun h1 => by rw [Plan.mark_ne (by decide)] at h1; rw [Plan.upd_ne (by decide)]; exact h.f h1),
  (fun _ => by obtain ⟨w1, w2, w3⟩ := h.w hn; refine ⟨p, hp, by rw [Plan.upd_eq]; exact hv, fun h1 => ?_, fun h1 => ?_, fun h1 => ?_⟩ <;> (rw [Plan.mark_ne (by decide)] at h1; simp_all)),
  (fun h1 => by rw [Plan.mark_eq] at h1; cases h1),
  (fun h1 => by rw [Plan.mark_ne (by decide), h19] at h1; cases h1)⟩
theorem ZN.p21 (h : ZN M done ys W) (h20 : done 20 = true) (hv : ∀ p, ys 20 = knR p → v = knR p) : ZN M (Sched.mark done 21) (Sched.upd ys 21 v) W :=
 ⟨(fun h1 h2 => by rw [Plan.mark_ne (by decide)] at h1; rw [Plan.mark_ne (by decide)] at h2; rw [Plan.upd_ne (by decide)]; exact h.b h1 h2),
  (fun h1 h2 => by rw [Plan.mark_ne (by decide)] at h1; rw [Plan.mark_ne (by decide)] at h2; rw [Plan.upd_ne (by decide)]; exact h.c h1 h2),
  (fun h1 h2 => by rw [Plan.mark_ne (by decide)] at h1; rw [Plan.mark_ne (by decide)] at h2; rw [Plan.upd_ne (by decide)]; exact h.d h1 h2),
  (fun h1 h2 => by rw [Plan.mark_ne (by decide)] at h1; rw [Plan.mark_ne (by decide)] at h2; rw [Plan.upd_ne (by decide)]; exact h.e h1 h2),
  (fun h1 => by rw [Plan.mark_ne (by decide)] at h1; rw [Plan.upd_ne (by decide)]; exact h.f h1),
  (fun h1 => by rw [Plan.mark_ne (by decide)] at h1; obtain ⟨p, h2, h3, h4, h5, h6⟩ := h.g h1; exact ⟨p, h2, by rw [Plan.upd_ne (by decide)]; exact h3, fun _ => by rw [Plan.upd_eq]; exact hv p h3, fun h1 => by rw [Plan.mark_ne (by decide)] at h1; rw [Plan.upd_ne (by decide)]; exact h5 h1, fun h1 => by rw [Plan.mark_ne (by decide)] at h1; rw [Plan.upd_ne (by decide)]; exact h6 h1⟩),
  (fun h1 => by rw [Plan.mark_ne (by decide), h20] at h1; cases h1),
  (fun h1 => by rw [Plan.mark_ne (by decide)] at h1; rw [Plan.mark_ne (by decide)]; exact h.x h1)⟩
theorem ZN.p22 (h : ZN M done ys W) (h20 : done 20 = true) (hv : ∀ p, ys 20 = knR p → v = knP p) : ZN M (Sched.mark done 22) (Sched.upd ys 22 v) W :=
 ⟨(fun h1 h2 => by rw [Plan.mark_ne (by decide)] at h1; rw [Plan.mark_ne (by decide)] at h2; rw [Plan.upd_ne (by decide)]; exact h.b h1 h2),
  (fun h1 h2 => by rw [Plan.mark_ne (by decide)] at h1; rw [Plan.mark_ne (by decide)] at h2; rw [Plan.upd_ne (by decide)]; exact h.c h1 h2),
  (fun h1 h2 => by rw [Plan.mark_ne (by decide)] at h1; rw [Plan.mark_ne (by decide)] at h2; rw [Plan.upd_ne (by decide)]; exact h.d h1 h2),
  (fun h1 h2 => by rw [Plan.mark_ne (by decide)] at h1; rw [Plan.mark_ne (by decide)] at h2; rw [Plan.upd_ne (by decide)]; exact h.e h1 h2),
  (fun h1 => by rw [Plan.mark_ne (by decide)] at h1; rw [Plan.upd_ne (by decide)]; exact h.f h1),
  (fun h1 => by rw [Plan.mark_ne (by decide)] at h1; obtain ⟨p, h2, h3, h4, h5, h6⟩ := h.g h1; exact ⟨p, h2, by rw [Plan.upd_ne (by decide)]; exact h3, fun h1 => by rw [Plan.mark_ne (by decide)] at h1; rw [Plan.upd_ne (by decide)]; exact h4 h1, fun _ => by rw [Plan.upd_eq]; exact hv p h3, fun h1 => by rw [Plan.mark_ne (by decide)] at h1; rw [Plan.upd_ne (by decide)]; exact h6 h1⟩),
  (fun h1 => by rw [Plan.mark_ne (by decide), h20] at h1; cases h1),
  (fun h1 => by rw [Plan.mark_ne (by decide)] at h1; rw [Plan.mark_ne (by decide)]; exact h.x h1)⟩
theorem ZN.p24 (h : ZN M done ys W) (h20 : done 20 = true) (h22 : done 22 = true) (hv : v = ys 22) : ZN M (Sched.mark done 24) (Sched.upd ys 24 v) W :=
 ⟨(fun h1 h2 => by rw [Plan.mark_ne (by decide)] at h1; rw [Plan.mark_ne (by decide)] at h2; rw [Plan.upd_ne (by decide)]; exact h.b h1 h2),
  (fun h1 h2 => by rw [Plan.mark_ne (by decide)] at h1; rw [Plan.mark_ne (by decide)] at h2; rw [Plan.upd_ne (by decide)]; exact h.c h1 h2),
  (fun h1 h2 => by rw [Plan.mark_ne (by decide)] at h1; rw [Plan.mark_ne (by decide)] at h2; rw [Plan.upd_ne (by decide)]; exact h.d h1 h2),
  (fun h1 h2 => by rw [Plan.mark_ne (by decide)] at h1; rw [Plan.mark_ne (by decide)] at h2; rw [Plan.upd_ne (by decide)]; exact h.e h1 h2),
  (fun h1 => by rw [Plan.mark_ne (by decide)] at h1; rw [Plan.upd_ne (by decide)]; exact h.f h1),
  (fun h1 => by rw [Plan.mark_ne (by decide)] at h1; obtain ⟨p, h2, h3, h4, h5, h6⟩ := h.g h1; exact ⟨p, h2, by rw [Plan.upd_ne (by decide)]; exact h3, fun h1 => by rw [Plan.mark_ne (by decide)] at h1; rw [Plan.upd_ne (by decide)]; exact h4 h1, fun h1 => by rw [Plan.mark_ne (by decide)] at h1; rw [Plan.upd_ne (by decide)]; exact h5 h1, fun _ => by rw [Plan.upd_eq, hv]; exact h5 h22⟩),
  (fun h1 => by rw [Plan.mark_ne (by decide), h20] at h1; cases h1),
  (fun h1 => by rw [Plan.mark_ne (by decide)] at h1; rw [Plan.mark_ne (by decide)]; exact h.x h1)⟩
theorem ZN.light {k : Nat} (h : ZN M done ys W) (hk : 7 ≠ k ∧ 14 ≠ k ∧ 15 ≠ k ∧ 18 ≠ k ∧ 19 ≠ k ∧ 20 ≠ k ∧ 21 ≠ k ∧ 22 ≠ k ∧ 24 ≠ k) : ZN M (Sched.mark done k) (Sched.upd ys k v) W :=
 ⟨(fun h1 h2 => by rw [Plan.mark_ne hk.1] at h1; rw [Plan.mark_ne hk.2.2.1] at h2; rw [Plan.upd_ne hk.1]; exact h.b h1 h2),
  (fun h1 h2 => by rw [Plan.mark_ne hk.2.1] at h1; rw [Plan.mark_ne hk.2.2.1] at h2; rw [Plan.upd_ne hk.2.1]; exact h.c h1 h2),
  (fun h1 h2 => by rw [Plan.mark_ne hk.2.2.1] at h1; rw [Plan.mark_ne hk.2.2.2.2.1] at h2; rw [Plan.upd_ne hk.2.2.1]; exact h.d h1 h2),
  (fun h1 h2 => by rw [Plan.mark_ne hk.2.2.2.1] at h1; rw [Plan.mark_ne hk.2.2.2.2.1] at h2; rw [Plan.upd_ne hk.2.2.2.1]; exact h.e h1 h2),
  (fun h1 => by rw [Plan.mark_ne hk.2.2.2.2.1] at h1; rw [Plan.upd_ne hk.2.2.2.2.1]; exact h.f h1),
  (fun h1 => by rw [Plan.mark_ne hk.2.2.2.2.2.1] at h1; obtain ⟨p, h2, h3, h4, h5, h6⟩ := h.g h1; exact ⟨p, h2, by rw [Plan.upd_ne hk.2.2.2.2.2.1]; exact h3, fun h1 => by rw [Plan.mark_ne hk.2.2.2.2.2.2.1] at h1; rw [Plan.upd_ne hk.2.2.2.2.2.2.1]; exact h4 h1, fun h1 => by rw [Plan.mark_ne hk.2.2.2.2.2.2.2.1] at h1; rw [Plan.upd_ne hk.2.2.2.2.2.2.2.1]; exact h5 h1, fun h1 => by rw [Plan.mark_ne hk.2.2.2.2.2.2.2.2] at h1; rw [Plan.upd_ne hk.2.2.2.2.2.2.2.2]; exact h6 h1⟩),
  (fun h1 => by rw [Plan.mark_ne hk.2.2.2.2.2.1] at h1; rw [Plan.mark_ne hk.2.2.2.2.2.2.1, Plan.mark_ne hk.2.2.2.2.2.2.2.1, Plan.mark_ne hk.2.2.2.2.2.2.2.2]; exact h.w h1),
  (fun h1 => by rw [Plan.mark_ne hk.2.2.2.2.1] at h1; rw [Plan.mark_ne hk.2.2.2.2.2.1]; exact h.x h1)⟩
theorem ZN.p19g (h : ZN M done ys W) (ho : KnRow M 2 [rq0, rq0] (ys 15) W) (hg : W.grownBy W' (ys 15).ownBlock) (hv : KnRow M 3 knT v W') (hn : done 19 = false) (hd : done 15 = true) : ZN M (Sched.mark done 19) (Sched.upd ys 19 v) W' :=
 ⟨(fun h1 h2 => by rw [Plan.mark_ne (by decide), hd] at h2; cases h2),
  (fun h1 h2 => by rw [Plan.mark_ne (by decide), hd] at h2; cases h2),
  (fun _ h2 => by rw [Plan.mark_eq] at h2; cases h2),
  (fun _ h2 => by rw [Plan.mark_eq] at h2; cases h2),
  (fun _ => by rw [Plan.upd_eq]; exact hv),
  (fun h1 => by rw [Plan.mark_ne (by decide), h.x hn] at h1; cases h1),
  (fun h1 => by rw [Plan.mark_ne (by decide)] at h1; rw [Plan.mark_ne (by decide), Plan.mark_ne (by decide), Plan.mark_ne (by decide)]; exact h.w h1),
  (fun h1 => by rw [Plan.mark_eq] at h1; cases h1)⟩
theorem ZN.r20 (h : ZN M done ys W) (h21 : done 21 = true) : done 20 = true := by
 cases h1 : done 20
 · have := (h.w h1).1
   rw [h21] at this; cases this
 · rfl
theorem ZN.r22 (h : ZN M done ys W) (h22 : done 22 = true) : done 20 = true := by
 cases h1 : done 20
 · have := (h.w h1).2.1
   rw [h22] at this; cases this
 · rfl
end
def fiveC : Array Value := #[.int .i64 0, .int .i64 0, .int .i64 5, .int .i64 0, .int .i64 40, .int .i64 0, .int .i64 0, .int .i64 5, .int .i64 0, .int .i64 40, .int .i64 0, .int .i64 0, .int .i64 5, .int .i64 0, .int .i64 40, .int .i64 0, .int .i64 0, .int .i64 5, .int .i64 0, .int .i64 40, .int .i64 0, .int .i64 0, .int .i64 0, .int .i64 0, .int .i64 0]
theorem five_mem {W : World} {g : Nat} (h : At W g 64 fiveC) : Vhs W.heap.size W (.slice (some ⟨g, 0, none⟩) 5 5) [vA, vA, vA, vA, v0] :=
 RowB.of_at (rows := [vA, vA, vA, vA, v0].map vhV) h h.inside (fun r hr => by obtain ⟨s, _, rfl⟩ := List.mem_map.1 hr; rfl) (fun i u hu => by
  have hi : i < 25 := (List.getElem?_eq_some_iff.1 hu).1
  rw [← hu]
  match i, hi with
  | 0, _ | 1, _ | 2, _ | 3, _ | 4, _ | 5, _ | 6, _ | 7, _ | 8, _ | 9, _ | 10, _ | 11, _ | 12, _ | 13, _ | 14, _ | 15, _ | 16, _ | 17, _ | 18, _ | 19, _ | 20, _ | 21, _ | 22, _ | 23, _ | 24, _ => rfl) (Nat.le_refl _) (by unfold maxLen; omega)
theorem two_mem {W : World} {g : Nat} (h : At W g 64 knA) : Vhs W.heap.size W (.slice (some ⟨g, 0, none⟩) 2 2) knV :=
 RowB.of_at (rows := knV.map vhV) h h.inside (fun r hr => by obtain ⟨s, _, rfl⟩ := List.mem_map.1 hr; rfl) (fun i u hu => by
  have hi : i < 10 := (List.getElem?_eq_some_iff.1 hu).1
  rw [← hu]
  match i, hi with
  | 0, _ | 1, _ | 2, _ | 3, _ | 4, _ | 5, _ | 6, _ | 7, _ | 8, _ | 9, _ => rfl) (Nat.le_refl _) (by unfold maxLen; omega)
theorem zero_mem {W : World} {g : Nat} (h : At W g 72 (rqC rz)) : Rqs W.heap.size W (.slice (some ⟨g, 0, none⟩) 1 1) [rz] :=
 RowB.of_at (rows := [rz].map rqV) h h.inside (fun r hr => by obtain ⟨s, _, rfl⟩ := List.mem_map.1 hr; rfl) (fun i u hu => by
  have hi : i < 10 := (List.getElem?_eq_some_iff.1 hu).1
  rw [← hu]
  match i, hi with
  | 0, _ | 1, _ | 2, _ | 3, _ | 4, _ | 5, _ | 6, _ | 7, _ | 8, _ | 9, _ => rfl) (Nat.le_refl _) (by unfold maxLen; omega)
set_option maxRecDepth 100000 in
set_option maxHeartbeats 16000000 in
theorem known_walk (w : World) (hsg : Sg w) : Calls Tryz.prog 9 #[] w fun e w' => e = .returned (.bool true) ∧ Below w.heap.size w w' := by
 obtain ⟨iq, hiq, hq0, hq1, hq2⟩ := info_parts info_req13K
 obtain ⟨q, hq⟩ : ∃ q, w.heap.size = q := ⟨_, rfl⟩
 have hg0 := hsg.pos
 obtain ⟨gf, hgf⟩ : ∃ gf, q + 1 = gf := ⟨_, rfl⟩
 obtain ⟨w1, hw1⟩ : ∃ w1, (w.alloc (.cells chTC 72)).alloc (.cells chVC 64) = w1 := ⟨_, rfl⟩
 have hm := ch_mem w
 have hCh := chapter_any w
 rw [hw1, hq, hgf] at hm
 rw [hq, hgf] at hCh
 rw [hq] at hg0
 have hT1 : At w1 q 72 chTC := by rw [← hw1]; exact (At.new_ _ _ _ hq.symm).alloc _
 have hV1 : At w1 gf 64 chVC := by rw [← hw1]; exact At.new_ _ _ _ (by simp [hq]; omega)
 have hb1 : Below q w w1 := by rw [← hw1]; exact ((Below.refl _ _).alloc (by omega) _).alloc (by simp; omega) _
 have hs1 : q ≤ w1.heap.size := by rw [← hw1]; simp [hq]; omega
 have hsg1 := Lib.hid (hsg.keep hb1 hg0)
 have hg0' := Lib.hid hg0
 have hw1' := Lib.hid hw1
 have hq' := Lib.hid hq
 have hmV := Lib.hid hm.1
 have hmT := Lib.hid hm.2
 have hb1' := Lib.hid hb1
 have a0 := hV1.cell 0
 have a1 := hV1.cell 1
 have a2 := hV1.cell 2
 have a3 := hV1.cell 3
 have a4 := hV1.cell 4
 simp [chVC] at a0 a1 a2 a3 a4
 have r0 := cell_regrown a0
 have r1 := cell_regrown a1
 have r2 := cell_regrown a2
 have r3 := cell_regrown a3
 have r4 := cell_regrown a4
 have hfi := hV1.inside
 have hV1' := Lib.hid hV1
 have hT1' := Lib.hid hT1
 clear hw1 hq hm hsg hb1 hg0 hV1 hT1 hgf
 go_enter Tryz.func9, Tryz.ntmps9
 go_wp2_with fail
 refine hCh.mono ?_
 clear hCh
 rintro e w1' ⟨rfl, rfl⟩
 rw [hw1'.out]
 go_upto_region 2 with fail
 refine Tail.wp_region_below_tail 13 (by kernel_rfl) (by kernel_rfl) (by kernel_rfl) ?_
 simp only [List.take_succ_cons, List.take_zero, List.drop_succ_cons, List.drop_zero]
 repeat (go_big_quiet_step (fail))
 refine wpQuiet_nil ?_
 intro _ hw'
 obtain ⟨⟨dq, osq⟩, hw''⟩ := hw'
 subst hw''
 have hgr := below_regrown w1 dq osq
 obtain ⟨w2, hw2⟩ : ∃ w2, grow (redrawn w1 dq) osq = w2 := ⟨_, rfl⟩
 rw [hw2] at hgr ⊢
 have hgr' := Lib.hid hgr
 have hB2 := Lib.hid (hb1'.out.trans (hgr.mono hs1))
 have hs2 : q ≤ w2.heap.size := Nat.le_trans hs1 hgr.size
 clear hw2 hgr a0 a1 a2 a3 a4 r0 r1 r2 r3 r4
 obtain ⟨m5, hm5⟩ : ∃ m, w2.heap.size = m := ⟨_, rfl⟩
 obtain ⟨w3, hw3⟩ : ∃ w3, w2.alloc (.cells fiveC 64) = w3 := ⟨_, rfl⟩
 have hF3 : At w3 m5 64 fiveC := by rw [← hw3]; exact At.new_ _ _ _ hm5.symm
 have hb3 : Below w2.heap.size w2 w3 := by rw [← hw3]; exact (Below.refl _ _).alloc (Nat.le_refl _) _
 have hB3 := Lib.hid (hB2.out.trans (hb3.mono hs2))
 have hs3 : q ≤ w3.heap.size := Nat.le_trans hs2 hb3.size
 have hbw3 := Lib.hid (hgr'.out.trans (hb3.mono hgr'.out.size))
 have hT3 := Lib.hid (Rqs.on hmT.out hbw3.out)
 have hV3 := Lib.hid (hmV.out.on hbw3.out)
 have hF3' := Lib.hid hF3
 have hN1 := New_any _ _ [vA, vA, vA, vA, v0] chT w3 (five_mem hF3) hT3.out (.inr ⟨_, _, _, rfl⟩) (.inr ⟨_, _, _, rfl⟩) (by decide) (by decide)
 rw [kn_e1] at hN1
 have hw3' := Lib.hid hw3
 have hm5' := Lib.hid hm5
 clear hw3 hm5 hF3 hb3
 go_upto_region 3 with fail
 simp only [hm5'.out]
 rw [show w2.alloc (.cells #[.int .i64 0, .int .i64 0, .int .i64 5, .int .i64 0, .int .i64 40, .int .i64 0, .int .i64 0, .int .i64 5, .int .i64 0, .int .i64 40, .int .i64 0, .int .i64 0, .int .i64 5, .int .i64 0, .int .i64 40, .int .i64 0, .int .i64 0, .int .i64 5, .int .i64 0, .int .i64 40, .int .i64 0, .int .i64 0, .int .i64 0, .int .i64 0, .int .i64 0] 64) = w3 from hw3'.out]
 go_wp2_with fail
 refine hN1.mono ?_
 clear hN1
 rintro e w4 ⟨hN, -, hb4⟩
 obtain rfl := hN (by decide)
 clear hN
 have hF4 := Lib.hid (hF3'.out.keep hb4 hF3'.out.inside)
 have hT4 := Lib.hid (Rqs.on hT3.out hb4)
 have hV4 := Lib.hid (hV3.out.on hb4)
 have hB4 := Lib.hid (hB3.out.trans (hb4.mono hs3))
 have hs4 : q ≤ w4.heap.size := Nat.le_trans hs3 hb4.size
 have hbw4 := Lib.hid (hbw3.out.trans (hb4.mono hbw3.out.size))
 have hF5 : Vhs w4.heap.size w4 (.slice (some ⟨m5, 15, none⟩) 2 2) [vA, v0] := by
  have h := rowFrom (k := 3) (five_mem hF4.out) (by decide)
  simp at h
  exact h
 have hN2 := New_any _ _ [vA, v0] chT w4 hF5 hT4.out (.inr ⟨_, _, _, rfl⟩) (.inr ⟨_, _, _, rfl⟩) (by decide) (by decide)
 rw [kn_e2] at hN2
 clear hb4 hF5
 go_wp2_with fail
 refine hN2.mono ?_
 clear hN2
 rintro e w5 ⟨hN, -, hb5⟩
 obtain rfl := hN (by decide)
 clear hN
 have hT5 := Lib.hid (Rqs.on hT4.out hb5)
 have hV5 := Lib.hid (hV4.out.on hb5)
 have hB5 := Lib.hid (hB4.out.trans (hb5.mono hs4))
 have hs5 : q ≤ w5.heap.size := Nat.le_trans hs4 hb5.size
 have hbw5 := Lib.hid (hbw4.out.trans (hb5.mono hbw4.out.size))
 obtain ⟨m6, hm6⟩ : ∃ m, w5.heap.size = m := ⟨_, rfl⟩
 obtain ⟨w6, hw6⟩ : ∃ w6, w5.alloc (.cells (rqC rz) 72) = w6 := ⟨_, rfl⟩
 have hZ6 : At w6 m6 72 (rqC rz) := by rw [← hw6]; exact At.new_ _ _ _ hm6.symm
 have hb6 : Below w5.heap.size w5 w6 := by rw [← hw6]; exact (Below.refl _ _).alloc (Nat.le_refl _) _
 have hV6 := Lib.hid (hV5.out.on hb6)
 have hB6 := Lib.hid (hB5.out.trans (hb6.mono hs5))
 have hs6 : q ≤ w6.heap.size := Nat.le_trans hs5 hb6.size
 have hbw6 := Lib.hid (hbw5.out.trans (hb6.mono hbw5.out.size))
 have hN3 := New_any _ _ chV [rz] w6 hV6.out (zero_mem hZ6) (.inr ⟨_, _, _, rfl⟩) (.inr ⟨_, _, _, rfl⟩) (by decide) (by decide)
 rw [kn_e3] at hN3
 have hw6' := Lib.hid hw6
 have hm6' := Lib.hid hm6
 clear hw6 hm6 hZ6 hb5 hb6
 go_wp2_with fail
 simp only [hm6'.out]
 rw [show w5.alloc (.cells #[.int .i64 0, .int .i64 0, .int .i64 0, .int .i64 0, .int .i64 0, .int .i64 0, .int .i64 0, .int .i64 0, .int .i64 0, .int .i64 0] 72) = w6 from hw6'.out]
 refine hN3.mono ?_
 clear hN3
 rintro e w7 ⟨hN, -, hb7⟩
 obtain rfl := hN (by decide)
 clear hN
 have hB7 := Lib.hid (hB6.out.trans (hb7.mono hs6))
 have hbw7 := hbw6.out.trans (hb7.mono hbw6.out.size)
 have hs7 : q ≤ w7.heap.size := Nat.le_trans hs6 hb7.size
 have hV7 := hV1'.out.keep hbw7 hV1'.out.inside
 have hT7 := hT1'.out.keep hbw7 hT1'.out.inside
 have hsg7 := Lib.hid (hsg1.out.on hbw7)
 have a0 := hV7.cell 0
 have a1 := hV7.cell 1
 have a2 := hV7.cell 2
 have a3 := hV7.cell 3
 have a4 := hV7.cell 4
 simp [chVC] at a0 a1 a2 a3 a4
 have c0 := hT7.cell 0
 have c1 := hT7.cell 1
 have c2 := hT7.cell 2
 have c3 := hT7.cell 3
 have c4 := hT7.cell 4
 have c5 := hT7.cell 5
 have c6 := hT7.cell 6
 have c7 := hT7.cell 7
 have c8 := hT7.cell 8
 have c9 := hT7.cell 9
 simp [chTC] at c0 c1 c2 c3 c4 c5 c6 c7 c8 c9
 have hfi := hV7.inside
 have hti := hT7.inside
 obtain ⟨M, hM⟩ : ∃ M, w7.heap.size = M := ⟨_, rfl⟩
 have hM' := Lib.hid hM
 rw [hM] at hfi hti hs7
 clear hb7 hbw7 hV7 hT7 hM
 go_upto_region 6 with fail
 refine Sched.wp_region_sched 25 (fun W W' => Kp M 72 W W') (VT (B := M) (T := 72) [.val (.slice (some ⟨gf, 0, none⟩) 2 2), .val (.pointer (some ⟨gf, 0, none⟩)), .val (.agg #[.int .i64 0, .int .i64 0, .int .i64 5, .int .i64 0, .int .i64 40]), .val (.slice (some ⟨gf, 0, none⟩) 2 2), .val (.pointer (some ⟨gf, 0, none⟩)), .val (.agg #[.int .i64 0, .int .i64 0, .int .i64 5, .int .i64 0, .int .i64 40]), .of (fun v w => ∃ g, v = .slice (some ⟨g, 0, none⟩) 2 2 ∧ At w g 64 knA) (fun ⟨g, e, h⟩ hb => ⟨g, e, hb.at_ h (by decide)⟩), .any, .val (.slice (some ⟨q, 0, none⟩) 2 2), .val (.pointer (some ⟨q, 0, none⟩)), .val (.agg #[.int .i64 5, .int .i64 0, .int .i64 9, .int .i64 0, .int .i64 0, .int .i64 20, .int .i64 0, .int .i64 30, .int .i64 3, .int .i64 1]), .val (.slice (some ⟨q, 0, none⟩) 2 2), .val (.pointer (some ⟨q, 0, none⟩)), .val (.agg #[.int .i64 5, .int .i64 0, .int .i64 9, .int .i64 0, .int .i64 0, .int .i64 20, .int .i64 0, .int .i64 30, .int .i64 3, .int .i64 1]), .any, .any, .val (.agg #[.int .i64 900, .int .i64 0]), .val (.agg #[.int .i64 900, .int .i64 0, .int .i64 0, .int .i64 0, .int .i64 0, .int .i64 0, .int .i64 0, .int .i64 0, .int .i64 1, .int .i64 0]), .any, .any, .any, .any, .any, .val (.int .i64 0), .any]) (ZN M) (by kernel_rfl) (by kernel_rfl) (by kernel_rfl) (fun h1 h2 => h1.trans h2) (fun h1 h2 => VT.keep h1 h2) (Kp.new (Below.refl _ _).drew (by rw [hM'.out]; exact Nat.le_refl _)) (fun ys => ZN.start _ _) (Sched.StepsA.steps (by kernel_rfl) ?hSA) ?hQA
 case hSA =>
  simp only [List.take_succ_cons, List.take_zero]
  refine ⟨?_, ?_, ?_, ?_, ?_, ?_, ?_, ?_, ?_, ?_, ?_, ?_, ?_, ?_, ?_, ?_, ?_, ?_, ?_, ?_, ?_, ?_, ?_, ?_, ?_, trivial⟩
  · intro ys done W aa hE hn hF hD hZ hG hO
    replace hE : Kp M 72 w7 W := hE
    have hMW : M ≤ W.heap.size := by rw [← hM'.out]; exact hE.size
    have o1 := hO 1 (by kernel_rfl)
    replace o1 : aa.tmps[1]? = some (.slice (some ⟨gf, 0, none⟩) 2 2) := o1
    replace hZ := Lib.hid hZ
    go_wp2_with fail
    exact ⟨_, rfl, Kp.new (Below.refl _ _) hMW, VT.val rfl rfl, hZ.out.light (by decide)⟩
  · intro ys done W aa hE hn hF hD hZ hG hO
    replace hE : Kp M 72 w7 W := hE
    have hMW : M ≤ W.heap.size := by rw [← hM'.out]; exact hE.size
    have g0 := hG 0 63 rfl (Nat.le_of_ble_eq_true rfl)
    have v0 := (hF 0 (by decide) (hD 0 (by kernel_rfl))).eq rfl
    rw [v0] at g0
    have z7 : gf < W.heap.size := Nat.lt_of_lt_of_le hfi hMW
    replace hZ := Lib.hid hZ
    go_wp2_with fail
    exact ⟨_, rfl, Kp.new (Below.refl _ _) hMW, VT.val rfl rfl, hZ.out.light (by decide)⟩
  · intro ys done W aa hE hn hF hD hZ hG hO
    replace hE : Kp M 72 w7 W := hE
    have hMW : M ≤ W.heap.size := by rw [← hM'.out]; exact hE.size
    have g1 := hG 1 64 rfl (Nat.le_of_ble_eq_true rfl)
    have v1 := (hF 1 (by decide) (hD 1 (by kernel_rfl))).eq rfl
    rw [v1] at g1
    have z7 : gf < W.heap.size := Nat.lt_of_lt_of_le hfi hMW
    have z0a := (hE.1.cell (p := ⟨gf, 0, none⟩) hfi).trans a0
    have z1a := (hE.1.cell (p := ⟨gf, 1, none⟩) hfi).trans a1
    have z2a := (hE.1.cell (p := ⟨gf, 2, none⟩) hfi).trans a2
    have z3a := (hE.1.cell (p := ⟨gf, 3, none⟩) hfi).trans a3
    have z4a := (hE.1.cell (p := ⟨gf, 4, none⟩) hfi).trans a4
    replace hZ := Lib.hid hZ
    go_wp2_with fail
    exact ⟨_, rfl, Kp.new (Below.refl _ _) hMW, VT.val rfl rfl, hZ.out.light (by decide)⟩
  · intro ys done W aa hE hn hF hD hZ hG hO
    replace hE : Kp M 72 w7 W := hE
    have hMW : M ≤ W.heap.size := by rw [← hM'.out]; exact hE.size
    have o1 := hO 1 (by kernel_rfl)
    replace o1 : aa.tmps[1]? = some (.slice (some ⟨gf, 0, none⟩) 2 2) := o1
    replace hZ := Lib.hid hZ
    go_wp2_with fail
    exact ⟨_, rfl, Kp.new (Below.refl _ _) hMW, VT.val rfl rfl, hZ.out.light (by decide)⟩
  · intro ys done W aa hE hn hF hD hZ hG hO
    replace hE : Kp M 72 w7 W := hE
    have hMW : M ≤ W.heap.size := by rw [← hM'.out]; exact hE.size
    have g3 := hG 3 66 rfl (Nat.le_of_ble_eq_true rfl)
    have v3 := (hF 3 (by decide) (hD 3 (by kernel_rfl))).eq rfl
    rw [v3] at g3
    have z7 : gf < W.heap.size := Nat.lt_of_lt_of_le hfi hMW
    replace hZ := Lib.hid hZ
    go_wp2_with fail
    exact ⟨_, rfl, Kp.new (Below.refl _ _) hMW, VT.val rfl rfl, hZ.out.light (by decide)⟩
  · intro ys done W aa hE hn hF hD hZ hG hO
    replace hE : Kp M 72 w7 W := hE
    have hMW : M ≤ W.heap.size := by rw [← hM'.out]; exact hE.size
    have g4 := hG 4 67 rfl (Nat.le_of_ble_eq_true rfl)
    have v4 := (hF 4 (by decide) (hD 4 (by kernel_rfl))).eq rfl
    rw [v4] at g4
    have z7 : gf < W.heap.size := Nat.lt_of_lt_of_le hfi hMW
    have z0a := (hE.1.cell (p := ⟨gf, 0, none⟩) hfi).trans a0
    have z1a := (hE.1.cell (p := ⟨gf, 1, none⟩) hfi).trans a1
    have z2a := (hE.1.cell (p := ⟨gf, 2, none⟩) hfi).trans a2
    have z3a := (hE.1.cell (p := ⟨gf, 3, none⟩) hfi).trans a3
    have z4a := (hE.1.cell (p := ⟨gf, 4, none⟩) hfi).trans a4
    replace hZ := Lib.hid hZ
    go_wp2_with fail
    exact ⟨_, rfl, Kp.new (Below.refl _ _) hMW, VT.val rfl rfl, hZ.out.light (by decide)⟩
  · intro ys done W aa hE hn hF hD hZ hG hO
    replace hE : Kp M 72 w7 W := hE
    have hMW : M ≤ W.heap.size := by rw [← hM'.out]; exact hE.size
    have g2 := hG 2 65 rfl (Nat.le_of_ble_eq_true rfl)
    have v2 := (hF 2 (by decide) (hD 2 (by kernel_rfl))).eq rfl
    rw [v2] at g2
    have g5 := hG 5 68 rfl (Nat.le_of_ble_eq_true rfl)
    have v5 := (hF 5 (by decide) (hD 5 (by kernel_rfl))).eq rfl
    rw [v5] at g5
    replace hZ := Lib.hid hZ
    go_wp2_with fail
    exact ⟨_, rfl, Kp.new ((Below.refl _ _).alloc (Nat.le_refl _) _) hMW, VT.of rfl ⟨_, rfl, At.new _ _ _⟩, (hZ.out.on ((Below.refl _ _).alloc (Nat.le_refl _) _)).light (by decide)⟩
  · intro ys done W aa hE hn hF hD hZ hG hO
    replace hE : Kp M 72 w7 W := hE
    have hMW : M ≤ W.heap.size := by rw [← hM'.out]; exact hE.size
    replace hZ := Lib.hid hZ
    go_wp2_with fail
    exact ⟨_, rfl, Kp.new ((Below.refl _ _).alloc (Nat.le_refl _) _) hMW, VT.any rfl, (hZ.out.on ((Below.refl _ _).alloc (Nat.le_refl _) _)).p7 ⟨_, rfl, ownsEmptyQ rfl hMW⟩⟩
  · intro ys done W aa hE hn hF hD hZ hG hO
    replace hE : Kp M 72 w7 W := hE
    have hMW : M ≤ W.heap.size := by rw [← hM'.out]; exact hE.size
    have o2 := hO 2 (by kernel_rfl)
    replace o2 : aa.tmps[2]? = some (.slice (some ⟨q, 0, none⟩) 2 2) := o2
    replace hZ := Lib.hid hZ
    go_wp2_with fail
    exact ⟨_, rfl, Kp.new (Below.refl _ _) hMW, VT.val rfl rfl, hZ.out.light (by decide)⟩
  · intro ys done W aa hE hn hF hD hZ hG hO
    replace hE : Kp M 72 w7 W := hE
    have hMW : M ≤ W.heap.size := by rw [← hM'.out]; exact hE.size
    have g8 := hG 8 71 rfl (Nat.le_of_ble_eq_true rfl)
    have v8 := (hF 8 (by decide) (hD 8 (by kernel_rfl))).eq rfl
    rw [v8] at g8
    have z7 : q < W.heap.size := Nat.lt_of_lt_of_le hti hMW
    replace hZ := Lib.hid hZ
    go_wp2_with fail
    exact ⟨_, rfl, Kp.new (Below.refl _ _) hMW, VT.val rfl rfl, hZ.out.light (by decide)⟩
  · intro ys done W aa hE hn hF hD hZ hG hO
    replace hE : Kp M 72 w7 W := hE
    have hMW : M ≤ W.heap.size := by rw [← hM'.out]; exact hE.size
    have g9 := hG 9 72 rfl (Nat.le_of_ble_eq_true rfl)
    have v9 := (hF 9 (by decide) (hD 9 (by kernel_rfl))).eq rfl
    rw [v9] at g9
    have z7 : q < W.heap.size := Nat.lt_of_lt_of_le hti hMW
    have z0c := (hE.1.cell (p := ⟨q, 0, none⟩) hti).trans c0
    have z1c := (hE.1.cell (p := ⟨q, 1, none⟩) hti).trans c1
    have z2c := (hE.1.cell (p := ⟨q, 2, none⟩) hti).trans c2
    have z3c := (hE.1.cell (p := ⟨q, 3, none⟩) hti).trans c3
    have z4c := (hE.1.cell (p := ⟨q, 4, none⟩) hti).trans c4
    have z5c := (hE.1.cell (p := ⟨q, 5, none⟩) hti).trans c5
    have z6c := (hE.1.cell (p := ⟨q, 6, none⟩) hti).trans c6
    have z7c := (hE.1.cell (p := ⟨q, 7, none⟩) hti).trans c7
    have z8c := (hE.1.cell (p := ⟨q, 8, none⟩) hti).trans c8
    have z9c := (hE.1.cell (p := ⟨q, 9, none⟩) hti).trans c9
    replace hZ := Lib.hid hZ
    go_wp2_with fail
    exact ⟨_, rfl, Kp.new (Below.refl _ _) hMW, VT.val rfl rfl, hZ.out.light (by decide)⟩
  · intro ys done W aa hE hn hF hD hZ hG hO
    replace hE : Kp M 72 w7 W := hE
    have hMW : M ≤ W.heap.size := by rw [← hM'.out]; exact hE.size
    have o2 := hO 2 (by kernel_rfl)
    replace o2 : aa.tmps[2]? = some (.slice (some ⟨q, 0, none⟩) 2 2) := o2
    replace hZ := Lib.hid hZ
    go_wp2_with fail
    exact ⟨_, rfl, Kp.new (Below.refl _ _) hMW, VT.val rfl rfl, hZ.out.light (by decide)⟩
  · intro ys done W aa hE hn hF hD hZ hG hO
    replace hE : Kp M 72 w7 W := hE
    have hMW : M ≤ W.heap.size := by rw [← hM'.out]; exact hE.size
    have g11 := hG 11 74 rfl (Nat.le_of_ble_eq_true rfl)
    have v11 := (hF 11 (by decide) (hD 11 (by kernel_rfl))).eq rfl
    rw [v11] at g11
    have z7 : q < W.heap.size := Nat.lt_of_lt_of_le hti hMW
    replace hZ := Lib.hid hZ
    go_wp2_with fail
    exact ⟨_, rfl, Kp.new (Below.refl _ _) hMW, VT.val rfl rfl, hZ.out.light (by decide)⟩
  · intro ys done W aa hE hn hF hD hZ hG hO
    replace hE : Kp M 72 w7 W := hE
    have hMW : M ≤ W.heap.size := by rw [← hM'.out]; exact hE.size
    have g12 := hG 12 75 rfl (Nat.le_of_ble_eq_true rfl)
    have v12 := (hF 12 (by decide) (hD 12 (by kernel_rfl))).eq rfl
    rw [v12] at g12
    have z7 : q < W.heap.size := Nat.lt_of_lt_of_le hti hMW
    have z0c := (hE.1.cell (p := ⟨q, 0, none⟩) hti).trans c0
    have z1c := (hE.1.cell (p := ⟨q, 1, none⟩) hti).trans c1
    have z2c := (hE.1.cell (p := ⟨q, 2, none⟩) hti).trans c2
    have z3c := (hE.1.cell (p := ⟨q, 3, none⟩) hti).trans c3
    have z4c := (hE.1.cell (p := ⟨q, 4, none⟩) hti).trans c4
    have z5c := (hE.1.cell (p := ⟨q, 5, none⟩) hti).trans c5
    have z6c := (hE.1.cell (p := ⟨q, 6, none⟩) hti).trans c6
    have z7c := (hE.1.cell (p := ⟨q, 7, none⟩) hti).trans c7
    have z8c := (hE.1.cell (p := ⟨q, 8, none⟩) hti).trans c8
    have z9c := (hE.1.cell (p := ⟨q, 9, none⟩) hti).trans c9
    replace hZ := Lib.hid hZ
    go_wp2_with fail
    exact ⟨_, rfl, Kp.new (Below.refl _ _) hMW, VT.val rfl rfl, hZ.out.light (by decide)⟩
  · intro ys done W aa hE hn hF hD hZ hG hO
    replace hE : Kp M 72 w7 W := hE
    have hMW : M ≤ W.heap.size := by rw [← hM'.out]; exact hE.size
    have g10 := hG 10 73 rfl (Nat.le_of_ble_eq_true rfl)
    have v10 := (hF 10 (by decide) (hD 10 (by kernel_rfl))).eq rfl
    rw [v10] at g10
    have g13 := hG 13 76 rfl (Nat.le_of_ble_eq_true rfl)
    have v13 := (hF 13 (by decide) (hD 13 (by kernel_rfl))).eq rfl
    rw [v13] at g13
    replace hZ := Lib.hid hZ
    go_wp2_with fail
    exact ⟨_, rfl, Kp.new ((Below.refl _ _).alloc (Nat.le_refl _) _) hMW, VT.any rfl, (hZ.out.on ((Below.refl _ _).alloc (Nat.le_refl _) _)).p14 ⟨_, rfl, hMW, At.new _ _ _⟩⟩
  · intro ys done W aa hE hn hF hD hZ hG hO
    replace hE : Kp M 72 w7 W := hE
    have hMW : M ≤ W.heap.size := by rw [← hM'.out]; exact hE.size
    have g7 := hG 7 70 rfl (Nat.le_of_ble_eq_true rfl)
    have g14 := hG 14 77 rfl (Nat.le_of_ble_eq_true rfl)
    obtain ⟨gb, eb, hob⟩ := hZ.b (hD 7 (by kernel_rfl)) hn
    obtain ⟨gc, ec, hgc, hAc⟩ := hZ.c (hD 14 (by kernel_rfl)) hn
    rw [eb] at g7 hob
    rw [ec] at g14
    refine wpList_append_fresh rfl (.tmp 70) (.tmp 77) 29 rfl M 72 iq (.agg #[.int .i64 0, .int .i64 0, .int .i64 0, .int .i64 0, .int .i64 0, .int .i64 0, .int .i64 0, .int .i64 0, .int .i64 0, .int .i64 0]) 10 80 Tryz.underlying29 hiq hq0 hq1 hq2 rfl (by decide) gb (show aa.tmps.getD 70 undef = _ by simp [g7]) hob (.slice (some ⟨gc, 0, none⟩) 2 2) 2 ⟨_, _, rfl⟩ (.inr ⟨_, _, _, rfl⟩) (flatQ [rq0, rq0]) (show aa.tmps.getD 77 undef = _ by simp [g14]) rfl (fun ad c e => by simp only [Value.slice.injEq] at e; obtain ⟨e, -, rfl⟩ := e; cases e; exact World.news_of_block (cs := knC) (t := 72) (fr := (0, 0)) hAc) flatQ_one (by unfold maxLen; omega) (by omega) hMW ?_
    intro v9 W9 hv9 hb9
    replace hZ := Lib.hid (hZ.on hb9)
    replace hv9 := Lib.hid hv9
    replace hb9 := Lib.hid hb9
    go_wp2_with fail
    exact ⟨_, rfl, Kp.new hb9.out hMW, VT.any rfl, hZ.out.p15 hv9.out⟩
  · intro ys done W aa hE hn hF hD hZ hG hO
    replace hE : Kp M 72 w7 W := hE
    have hMW : M ≤ W.heap.size := by rw [← hM'.out]; exact hE.size
    replace hZ := Lib.hid hZ
    go_wp2_with fail
    exact ⟨_, rfl, Kp.new (Below.refl _ _) hMW, VT.val rfl rfl, hZ.out.light (by decide)⟩
  · intro ys done W aa hE hn hF hD hZ hG hO
    replace hE : Kp M 72 w7 W := hE
    have hMW : M ≤ W.heap.size := by rw [← hM'.out]; exact hE.size
    have g16 := hG 16 79 rfl (Nat.le_of_ble_eq_true rfl)
    have v16 := (hF 16 (by decide) (hD 16 (by kernel_rfl))).eq rfl
    rw [v16] at g16
    replace hZ := Lib.hid hZ
    go_wp2_with fail
    exact ⟨_, rfl, Kp.new (Below.refl _ _) hMW, VT.val rfl rfl, hZ.out.light (by decide)⟩
  · intro ys done W aa hE hn hF hD hZ hG hO
    replace hE : Kp M 72 w7 W := hE
    have hMW : M ≤ W.heap.size := by rw [← hM'.out]; exact hE.size
    have g17 := hG 17 80 rfl (Nat.le_of_ble_eq_true rfl)
    have v17 := (hF 17 (by decide) (hD 17 (by kernel_rfl))).eq rfl
    rw [v17] at g17
    replace hZ := Lib.hid hZ
    go_wp2_with fail
    exact ⟨_, rfl, Kp.new ((Below.refl _ _).alloc (Nat.le_refl _) _) hMW, VT.any rfl, (hZ.out.on ((Below.refl _ _).alloc (Nat.le_refl _) _)).p18 ⟨_, rfl, hMW, At.new _ _ _⟩⟩
  · intro ys done W aa hE hn hF hD hZ hG hO
    replace hE : Kp M 72 w7 W := hE
    have hMW : M ≤ W.heap.size := by rw [← hM'.out]; exact hE.size
    have g15 := hG 15 78 rfl (Nat.le_of_ble_eq_true rfl)
    have g18 := hG 18 81 rfl (Nat.le_of_ble_eq_true rfl)
    have hod := hZ.d (hD 15 (by kernel_rfl)) hn
    obtain ⟨ge, ee, hge, hAe⟩ := hZ.e (hD 18 (by kernel_rfl)) hn
    rw [ee] at g18
    refine wpList_append_own _ rfl (.tmp 78) (.tmp 81) 29 rfl M 72 iq (.agg #[.int .i64 0, .int .i64 0, .int .i64 0, .int .i64 0, .int .i64 0, .int .i64 0, .int .i64 0, .int .i64 0, .int .i64 0, .int .i64 0]) 10 80 Tryz.underlying29 hiq hq0 hq1 hq2 rfl (by decide) (ys 15) 2 (flatQ [rq0, rq0]) (show aa.tmps.getD 78 undef = _ by simp [g15]) hod ⟨ge, 0, none⟩ 1 1 (rqV rqX) (show aa.tmps.getD 81 undef = _ by simp [g18]) rfl (World.news_of_block (cs := knX) (t := 72) (fr := (0, 0)) hAe) (by simp [rqV, Value.oneCell']) (by unfold maxLen; omega) (by omega) hMW ?_
    intro v9 W9 hv9 hgw9 _
    have hK9 := Lib.hid (Kp.grown hod (Nat.le_refl _) hgw9 hMW)
    replace hZ := Lib.hid (hZ.p19g hod hgw9 (show KnRow M 3 knT v9 W9 from hv9) hn (hD 15 (by kernel_rfl)))
    clear hgw9
    go_wp2_with fail
    exact ⟨_, rfl, hK9.out, VT.any rfl, hZ.out⟩
  · intro ys done W aa hE hn hF hD hZ hG hO
    replace hE : Kp M 72 w7 W := hE
    have hMW : M ≤ W.heap.size := by rw [← hM'.out]; exact hE.size
    have g6 := hG 6 69 rfl (Nat.le_of_ble_eq_true rfl)
    have v6 := (hF 6 (by decide) (hD 6 (by kernel_rfl))).get rfl
    have g19 := hG 19 82 rfl (Nat.le_of_ble_eq_true rfl)
    obtain ⟨ga, ea, hAa⟩ := v6
    rw [ea] at g6
    have hof := hZ.f (hD 19 (by kernel_rfl))
    have h19 := Lib.hid (hD 19 (by kernel_rfl))
    obtain ⟨yf, cf, ef, -, -⟩ := owns_slice hof
    rw [ef] at g19 hof
    have hRf : Rqs W.heap.size W (.slice yf 3 cf) knT := RowB.of_owns (rows := knT.map rqV) hof rfl (fun r hr => by obtain ⟨s, _, rfl⟩ := List.mem_map.1 hr; rfl) (Nat.le_refl _)
    have hNw := New_any _ _ knV knT W (two_mem hAa) hRf (.inr ⟨_, _, _, rfl⟩) (own_plain hof) (by decide) (by decide)
    rw [kn_e4] at hNw
    replace hZ := Lib.hid hZ
    clear hof hRf
    go_wp2_with fail
    refine hNw.mono ?_
    rintro e W' ⟨-, hN, hb'⟩
    obtain ⟨p, rfl, G, hG1, hG2⟩ := hN (by trivial)
    have hk := Lib.hid (show KnTwo M p W' from ⟨G, fun k hk => Nat.le_trans hMW (hG1 k hk).1, hG2 G (fun k h => h) (fun k h => .inl h)⟩)
    replace hb' := Lib.hid hb'
    clear hN hG1 hG2
    go_wp2_with fail
    exact ⟨_, rfl, Kp.new hb'.out hMW, VT.any rfl, (hZ.out.on hb'.out).p20 hn h19.out hk.out rfl⟩
  · intro ys done W aa hE hn hF hD hZ hG hO
    replace hE : Kp M 72 w7 W := hE
    have hMW : M ≤ W.heap.size := by rw [← hM'.out]; exact hE.size
    have g20 := hG 20 83 rfl (Nat.le_of_ble_eq_true rfl)
    obtain ⟨p, hk, e20, -⟩ := hZ.g (hD 20 (by kernel_rfl))
    have h20 := Lib.hid (hD 20 (by kernel_rfl))
    have e20' := Lib.hid e20
    rw [e20] at g20
    replace hZ := Lib.hid hZ
    clear hk e20
    go_wp2_with fail
    exact ⟨_, rfl, Kp.new (Below.refl _ _) hMW, VT.any rfl, hZ.out.p21 h20.out (fun p' e => by rw [← e, e20'.out])⟩
  · intro ys done W aa hE hn hF hD hZ hG hO
    replace hE : Kp M 72 w7 W := hE
    have hMW : M ≤ W.heap.size := by rw [← hM'.out]; exact hE.size
    have g21 := hG 21 62 rfl (Nat.le_of_ble_eq_true rfl)
    have h21 := Lib.hid (hD 21 (by kernel_rfl))
    have h20 := Lib.hid (hZ.r20 h21.out)
    obtain ⟨p, hk, e20, e21, -⟩ := hZ.g h20.out
    have e20' := Lib.hid e20
    rw [e21 h21.out] at g21
    unfold knR at g21
    replace hZ := Lib.hid hZ
    clear hk e20 e21
    go_wp2_with fail
    exact ⟨_, rfl, Kp.new (Below.refl _ _) hMW, VT.any rfl, hZ.out.p22 h20.out (fun p' e => by rw [e20'.out] at e; unfold knR at e; cases e; rfl)⟩
  · intro ys done W aa hE hn hF hD hZ hG hO
    replace hE : Kp M 72 w7 W := hE
    have hMW : M ≤ W.heap.size := by rw [← hM'.out]; exact hE.size
    have g21 := hG 21 62 rfl (Nat.le_of_ble_eq_true rfl)
    have h21 := Lib.hid (hD 21 (by kernel_rfl))
    have h20 := Lib.hid (hZ.r20 h21.out)
    obtain ⟨p, hk, e20, e21, -⟩ := hZ.g h20.out
    have e20' := Lib.hid e20
    rw [e21 h21.out] at g21
    unfold knR at g21
    replace hZ := Lib.hid hZ
    clear hk e20 e21
    go_wp2_with fail
    exact ⟨_, rfl, Kp.new (Below.refl _ _) hMW, VT.val rfl rfl, hZ.out.light (by decide)⟩
  · intro ys done W aa hE hn hF hD hZ hG hO
    replace hE : Kp M 72 w7 W := hE
    have hMW : M ≤ W.heap.size := by rw [← hM'.out]; exact hE.size
    have g22 := hG 22 84 rfl (Nat.le_of_ble_eq_true rfl)
    have h22 := Lib.hid (hD 22 (by kernel_rfl))
    have h20 := Lib.hid (hZ.r22 h22.out)
    obtain ⟨p, hk, -, -, e22, -⟩ := hZ.g h20.out
    have e22' := Lib.hid (e22 h22.out)
    rw [e22 h22.out] at g22
    unfold knP at g22
    replace hZ := Lib.hid hZ
    clear hk e22
    go_wp2_with fail
    exact ⟨_, rfl, Kp.new (Below.refl _ _) hMW, VT.any rfl, hZ.out.p24 h20.out h22.out (by rw [e22'.out]; rfl)⟩
 case hQA =>
  intro ys w8 hE hF hZ
  replace hE : Kp M 72 w7 w8 := hE
  have v23 := (hF 23 (by decide)).eq rfl
  obtain ⟨done, hdn, hZ⟩ := hZ
  obtain ⟨p, hk8, -, -, -, e24⟩ := hZ.g (hdn 20 (by decide))
  have e24 := e24 (hdn 24 (by decide))
  unfold knP at e24
  simp only [List.take_succ_cons, List.take_zero, List.drop_succ_cons, List.drop_zero, Sched.fill, v23, e24]
  clear hF hZ hdn e24 v23
  go_simp
  obtain ⟨G, hGM, hA⟩ := hk8
  have hb8 : Below w7.heap.size w7 w8 := by rw [hM'.out]; exact hE.1
  have hA8 := Lib.hid hA
  have hGM' := Lib.hid hGM
  have hsg8 := Lib.hid (hsg7.out.on hb8)
  have hB8 := Lib.hid (hB7.out.trans (hb8.mono (by rw [hM'.out]; exact hs7)))
  have hM8 : M ≤ w8.heap.size := by rw [← hM'.out]; exact hb8.size
  have hWk := works_any w8 hsg8.out
  clear hE hA hGM hb8 a0 a1 a2 a3 a4 c0 c1 c2 c3 c4 c5 c6 c7 c8 c9
  go_wp2_with fail
  refine hWk.mono ?_
  clear hWk
  rintro e w9 ⟨rfl, hb9⟩
  have hA9 := Lib.hid (hA8.out.chg (E := fun _ => False) (Chg.of_below hb9) (fun k he => he.elim))
  have hsg9 := Lib.hid (hsg8.out.on hb9)
  have hB9 := Lib.hid (hB8.out.trans (hb9.mono (Nat.le_trans hs7 hM8)))
  have hM9 : M ≤ w9.heap.size := Nat.le_trans hM8 hb9.size
  have hP := Price_any 2 w9 hA9.out kn_ok hsg9.out
  rw [kn_p2.1, kn_p2.2.1, kn_p2.2.2] at hP
  clear hb9
  go_wp2_with fail
  refine hP.mono ?_
  clear hP
  rintro e w10 ⟨rfl, hb10⟩
  have hA10 := Lib.hid (hA9.out.chg (E := fun _ => False) (Chg.of_below hb10) (fun k he => he.elim))
  have hsg10 := Lib.hid (hsg9.out.on hb10)
  have hB10 := Lib.hid (hB9.out.trans (hb10.mono (Nat.le_trans hs7 hM9)))
  have hM10 : M ≤ w10.heap.size := Nat.le_trans hM9 hb10.size
  have hP := Price_any 1 w10 hA10.out kn_ok hsg10.out
  rw [kn_p1.1, kn_p1.2.1, kn_p1.2.2] at hP
  clear hb10
  go_wp2_with fail
  refine hP.mono ?_
  clear hP
  rintro e w11 ⟨rfl, hb11⟩
  have hA11 := Lib.hid (hA10.out.chg (E := fun _ => False) (Chg.of_below hb11) (fun k he => he.elim))
  have hB11 := Lib.hid (hB10.out.trans (hb11.mono (Nat.le_trans hs7 hM10)))
  have hM11 : M ≤ w11.heap.size := Nat.le_trans hM10 hb11.size
  have hTk := Take_any (-1) w11 hA11.out kn_ok ⟨by decide, by decide⟩
  rw [kn_tk.1, kn_ts] at hTk
  clear hb11
  go_wp2_with fail
  refine hTk.mono ?_
  clear hTk
  rintro e w12 ⟨rfl, ⟨D12, G12, hP12, -, -⟩, hc12⟩
  have hA12 := Lib.hid hP12
  have hB12 := Lib.hid (hB11.out.trans (hc12.below (n := q) (Nat.le_trans hs7 hM11) (fun k hk => Nat.le_trans hs7 (hGM'.out k hk))))
  have hM12 : M ≤ w12.heap.size := Nat.le_trans hM11 hc12.size
  have hWh := Where_any 7 w12 hA12.out kn_ok ⟨by decide, by decide⟩
  rw [kn_tk.2.1] at hWh
  clear hP12 hc12
  go_wp2_with fail
  refine hWh.mono ?_
  clear hWh
  rintro e w13 ⟨rfl, hb13⟩
  have hA13 := Lib.hid (hA12.out.chg (E := fun _ => False) (Chg.of_below hb13) (fun k he => he.elim))
  have hB13 := Lib.hid (hB12.out.trans (hb13.mono (Nat.le_trans hs7 hM12)))
  have hM13 : M ≤ w13.heap.size := Nat.le_trans hM12 hb13.size
  have hRt := Routes_any w13 hA13.out kn_ok
  clear hb13
  go_wp2_with fail
  refine hRt.mono ?_
  clear hRt
  rintro e w14 ⟨⟨u14, rfl, us14, hR⟩, hb14⟩
  obtain ⟨x14, c14, rfl, -, -⟩ := owns_slice (show w14.ownsRow w13.heap.size 59 1 u14 2 us14 from hR.1)
  have hA14 := Lib.hid (hA13.out.chg (E := fun _ => False) (Chg.of_below hb14) (fun k he => he.elim))
  have hB14 := Lib.hid (hB13.out.trans (hb14.mono (Nat.le_trans hs7 hM13)))
  have hM14 : M ≤ w14.heap.size := Nat.le_trans hM13 hb14.size
  have hTt := Total_any w14 hA14.out kn_ok
  rw [kn_tk.2.2] at hTt
  clear hb14 hR
  go_wp2_with fail
  refine hTt.mono ?_
  clear hTt
  rintro e w15 ⟨rfl, hb15⟩
  have hf := Lib.hid (hB14.out.trans (hb15.mono (Nat.le_trans hs7 hM14)))
  have n1 := nil_price 0 w15
  have n2 := nil_put 0 w15
  have n3 := nil_take 0 w15
  have n4 := nil_has 0 w15
  have n5 := nil_where 0 w15
  have n6 := nil_all w15
  have n7 := nil_routes w15
  have n8 := nil_total w15
  have n9 := nil_copy w15
  clear hb15
  go_wp2_with fail
  refine n1.mono ?_
  clear n1
  rintro e w' ⟨rfl, rfl⟩
  go_wp2_with fail
  refine n2.mono ?_
  clear n2
  rintro e w' ⟨rfl, rfl⟩
  go_wp2_with fail
  refine n3.mono ?_
  clear n3
  rintro e w' ⟨rfl, rfl⟩
  go_wp2_with fail
  refine n4.mono ?_
  clear n4
  rintro e w' ⟨rfl, rfl⟩
  go_wp2_with fail
  refine n5.mono ?_
  clear n5
  rintro e w' ⟨rfl, rfl⟩
  go_wp2_with fail
  refine n6.mono ?_
  clear n6
  rintro e w' ⟨rfl, rfl⟩
  go_wp2_with fail
  refine n7.mono ?_
  clear n7
  rintro e w' ⟨rfl, rfl⟩
  go_wp2_with fail
  refine n8.mono ?_
  clear n8
  rintro e w' ⟨rfl, rfl⟩
  go_wp2_with fail
  refine n9.mono ?_
  clear n9
  rintro e w' ⟨rfl, rfl⟩
  go_wp2
  go_ret
  exact ⟨rfl, by rw [hq'.out]; exact hf.out⟩
end Go.Proofs.YtlbghdiebjldjaaGreatDoor.Plan
/-
  PlanKnown, the chapter's examples, which error comes first, two like vehicles, a request that nobody can serve, a plan that is none, returns true (a closed statement). Its condition: package load's variable signs and package cheap's variable none are as the program's text lays them when the call begins, which the card ties to that text.
-/
namespace Go.Proofs.YtlbghdiebjldjaaGreatDoor.planKnown
open Go.ChangeShapes Go.WideShapes Go.ChangeAt Go.RowKit Go.Sort
open Go.Proofs.YtlbghdiebjldjaaGreatDoor.Laid Go.Proofs.YtlbghdiebjldjaaGreatDoor.When Go.Proofs.YtlbghdiebjldjaaGreatDoor.Plan
set_option linter.unusedVariables false
set_option maxRecDepth 100000 in
theorem lifted (os : Os) (started : os.Started) (H : Type) (enc : TypeId × Value → H) :
 ReturnsInHanded {} Tryz.checked os 9 .any (fun w args => (Rows.planKnownSpec.pre enc Tryz.prog Tryz.f9 [] false w args ∧ laidMetH Tryz.prog Rows.planKnownRow.laid w) ∧ sizedMet enc Tryz.prog Tryz.f9 (OpenSpec.ofChange Rows.planKnownSpec) false w args)
  (Rows.planKnownSpec.post enc Tryz.prog Tryz.f9 false true false false) := by
 refine returnsInHanded_of_change_and (C := Tryz.checked) (X := fun w _ => laidMetH Tryz.prog Rows.planKnownRow.laid w) (fun _ _ _ hh h => h.of_heap hh) own started (by kernel_rfl) Tryz.func9
  (ChangeSpec.witness_shaped (enc := enc) (C := Tryz.checked) (os := os) (X := fun w _ => laidMetH Tryz.prog Rows.planKnownRow.laid w) false (World.doorLaid Tryz.prog 400 os) #[] 8 rfl (World.shaped_of_RefB (by kernel_rfl) (by kernel_rfl)) (by kernel_rfl) (by kernel_rfl) (by kernel_rfl) (door_met os _)) ?_
 intro W base args ds gs before hval0 hW _ _ hL _
 have hval : ∀ (j : Nat) t v, Tryz.f9.params[j]? = some t → args[j]? = some v → Value.okWide Tryz.prog W .any base t v := hval0
 have hW' := hW
 obtain ⟨p, q, hA0, hV, rfl, hfz, hnd⟩ := hW
 have hA : DataW.TrodAll enc Tryz.prog W 0 (fun _ => true) true Tryz.f9.params.toList args.toList ds p := hA0
 rw [Tryz.params9] at hA
 obtain ⟨rfl, rfl, rfl⟩ := trodAll_none hA
 obtain ⟨rfl, rfl⟩ := trodVars_none hV
 exact (known_walk W (sg_of_laid hL)).mono fun e W' ⟨he, hb⟩ => ⟨_, he, Close.law_post laidOut (by kernel_rfl) rfl (by kernel_rfl) Tryz.underlying4 hW' rfl hb⟩
theorem over : Rows.PlanKnownSaid :=
 OpenClaim.holds_of_wide 9 Tryz.f9 rfl rfl rfl rfl rfl rfl rfl ⟨rfl, rfl, rfl, rfl, rfl⟩ rfl rfl rfl rfl rfl (by kernel_rfl) Tryz.func9 (by kernel_rfl)
  (of_decide_eq_true (by kernel_rfl)) (by unfold Func.isWrapper; first | (rw [if_pos (by decide +kernel)]; kernel_rfl) | (rw [if_neg (by decide +kernel)]; exact ⟨rfl, rfl⟩))
  (fun os started H enc _ => lifted os started H enc)
theorem proved : Rows.PlanKnownCardSaid :=
 Claim7.holds_tied_plain_at .later [] [.data, .data] true (true, "e668552edf091549f3a33a44068f668d0797b8d5ae29daa3679ffd99e7045ff1") true
  over (fun _ h => by cases h) (by kernel_rfl) (fun _ h => by cases h) planKnown_row_tie rfl ⟨rfl, rfl⟩ (by kernel_rfl) rfl
  (fun f fn hf hfn => by
   obtain rfl : f = 9 := Option.some.inj ((show Tryz.prog.funcNamed "consign/consignlaw13.PlanKnown" = some 9 by kernel_rfl).symm.trans hf) |>.symm
   obtain rfl : fn = Tryz.f9 := (Option.some.inj (Tryz.func9.symm.trans hfn)).symm
   exact ⟨by kernel_rfl, fun j t ht => by
    rw [Tryz.params9] at ht
    simp at ht⟩)
  (by kernel_rfl)
#print axioms proved
end Go.Proofs.YtlbghdiebjldjaaGreatDoor.planKnown

import Derived.Test.YteclpblfleakhaaGreatDoorPkPlanFresh

namespace Go.Proofs.YteclpblfleakhaaGreatDoor.Plan
open Go.RowKit Go.Sort Go.Proofs.YteclpblfleakhaaGreatDoor.Mem Go.Proofs.YteclpblfleakhaaGreatDoor.Route Go.Proofs.YteclpblfleakhaaGreatDoor.When Go.Proofs.YteclpblfleakhaaGreatDoor.Load Go.Proofs.YteclpblfleakhaaGreatDoor.Ins Go.Proofs.YteclpblfleakhaaGreatDoor.Cheap Go.Proofs.YteclpblfleakhaaGreatDoor.Feas
set_option linter.unusedVariables false
structure LikeAt (M : Nat) (W : World) (p gt gm : Nat) (vt : Value) (cap : Nat) (us : List Value) (k : Nat) (S : St) : Prop where
 box : At W p 78 #[.slice (some ⟨gt, 0, none⟩) S.vs.length cap, vt, .map (some gm)]
 pM : M ≤ p
 ot : W.ownsRow M 43 10 vt S.t.length (flatQ S.t)
 own : W.ownsRow M 74 6 (.slice (some ⟨gt, 0, none⟩) S.vs.length cap) S.vs.length (toursF S.vs us)
 ulen : us.length = S.vs.length
 rows : ∀ (i : Nat) u l, i < k → us[i]? = some u → S.rows[i]? = some l → W.ownsRow M 82 2 u l.length (flatS l)
 map : MapAt W gm 1000 (whO S)
 mM : M ≤ gm
section
variable {M : Nat} {W W' : World} {p gt gm : Nat} {vt : Value} {cap : Nat} {us : List Value} {k : Nat} {S : St}
theorem LikeAt.on (h : LikeAt M W p gt gm vt cap us k S) (hb : Below W.heap.size W W') : LikeAt M W' p gt gm vt cap us k S :=
 ⟨h.box.keep hb h.box.inside, h.pM, owns_below h.ot hb, owns_below h.own hb, h.ulen, fun i u l hi hu hl => owns_below (h.rows i u l hi hu hl) hb, h.map.same (hb.block gm h.map.inside), h.mM⟩
theorem LikeAt.gtIn (h : LikeAt M W p gt gm vt cap us k S) : M ≤ gt ∧ gt < W.heap.size := World.ownsRow.lt h.own gt rfl
theorem LikeAt.put (h : LikeAt M W p gt gm vt cap us k S) (hk : k < S.vs.length) {u : Value} {l : List (Int × Int)} (hl : S.rows[k]? = some l) (hu : W.ownsRow M 82 2 u l.length (flatS l)) :
 LikeAt M (W.setCell ⟨gt, k * 6 + 5, none⟩ u) p gt gm vt cap (us.set k u) (k + 1) S := by
 have hc : Chg (fun k => k = gt) W (W.setCell ⟨gt, k * 6 + 5, none⟩ u) := Chg.set (D := fun k => k = gt) W (g := gt) rfl (k * 6 + 5) u
 have hlu : k < us.length := by rw [h.ulen]; exact hk
 have hoff : ∀ {v : Value} {e : TypeId} {size n : Nat} {xs : List Value}, W.ownsRow M e size v n xs → e ≠ 74 → Off (fun k => k = gt) v := fun h1 hne g e he => own_ne h1 h.own hne g e (by rw [he]; rfl)
 refine ⟨hc.at_ h.box (fun e => own_at_ne h.box h.own (by decide) (by rw [e]; rfl)), h.pM, hc.owns h.ot (hoff h.ot (by decide)), ?_, by simpa using h.ulen, fun i u' l' hi hu' hl' => ?_, h.map.same (hc.block gm h.map.inside (fun e => own_map_ne h.own h.map (by rw [e]; rfl))), h.mM⟩
 · have := (h.own.stored (k * 6 + 5) u).1
   rw [toursF_set u hk hlu] at this
   exact this
 · rcases set_get hlu hu' with ⟨rfl, rfl⟩ | ⟨hj, h1⟩
   · obtain rfl : l = l' := Option.some.inj (hl.symm.trans hl')
     exact hc.owns hu (hoff hu (by decide))
   · have h2 := h.rows i u' l' (by omega) h1 hl'
     exact hc.owns h2 (hoff h2 (by decide))
theorem LikeAt.cells (h : LikeAt M W p gt gm vt cap us k S) {i : Nat} {v : Vh} (hv : S.vs[i]? = some v) : ∃ u, us[i]? = some u ∧ W.cell? ⟨gt, i * 6 + 5, none⟩ = some u := by
 have hi := (List.getElem?_eq_some_iff.1 hv).1
 have hu : us[i]? = some (us[i]'(by rw [h.ulen]; exact hi)) := List.getElem?_eq_getElem _
 refine ⟨_, hu, ?_⟩
 rw [h.own.cellAt (i * 6 + 5) (by omega)]
 exact toursF_get hv hu 5 _ rfl
end
end Go.Proofs.YteclpblfleakhaaGreatDoor.Plan
namespace Go.Proofs.YteclpblfleakhaaGreatDoor.Plan
open Go.RowKit Go.Proofs.YteclpblfleakhaaGreatDoor.Mem
set_option linter.unusedVariables false
structure ZS (s : Nat) (P0 : World → Prop) (P1 : Value → World → Prop) (done : Nat → Bool) (ys : Nat → Value) (W : World) : Prop where
 a : done s = false → P0 W
 b : done s = true → P1 (ys s) W
section
variable {s : Nat} {P0 : World → Prop} {P1 : Value → World → Prop} {done : Nat → Bool} {ys : Nat → Value} {W W' : World}
theorem ZS.start (ys : Nat → Value) (h : P0 W) : ZS s P0 P1 (fun _ => false) ys W := ⟨fun _ => h, fun h => (by cases h)⟩
theorem ZS.light {k : Nat} {v : Value} (h : ZS s P0 P1 done ys W) (hs : s ≠ k) (h0 : P0 W → P0 W') (h1 : ∀ x, P1 x W → P1 x W') : ZS s P0 P1 (Sched.mark done k) (Sched.upd ys k v) W' :=
 ⟨by rw [mark_ne hs]; exact fun hd => h0 (h.a hd), by rw [mark_ne hs, upd_ne hs]; exact fun hd => h1 _ (h.b hd)⟩
theorem ZS.put {v : Value} (h : P1 v W') : ZS s P0 P1 (Sched.mark done s) (Sched.upd ys s v) W' :=
 ⟨fun hd => (by rw [mark_eq] at hd; cases hd), fun _ => (by rw [upd_eq]; exact h)⟩
end
end Go.Proofs.YteclpblfleakhaaGreatDoor.Plan

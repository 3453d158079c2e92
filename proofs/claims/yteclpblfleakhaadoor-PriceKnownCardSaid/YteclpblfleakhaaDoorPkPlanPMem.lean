import Derived.Test.YteclpblfleakhaaDoorPkPlanFresh

namespace Go.Proofs.YteclpblfleakhaaDoor.Plan
open Go.RowKit Go.Proofs.YteclpblfleakhaaDoor.Mem Go.Proofs.YteclpblfleakhaaDoor.Route Go.Proofs.YteclpblfleakhaaDoor.When Go.Proofs.YteclpblfleakhaaDoor.Load Go.Proofs.YteclpblfleakhaaDoor.Ins
set_option linter.unusedVariables false
def tourV (v : Vh) (u : Value) : List Value := [.int .i64 v.hx, .int .i64 v.hy, .int .i64 v.cp, .int .i64 v.st, .int .i64 v.en, u]
def toursF : List Vh → List Value → List Value
 | v :: vs, u :: us => tourV v u ++ toursF vs us
 | _, _ => []
theorem toursF_get : ∀ {vs : List Vh} {us : List Value} {i : Nat} {v : Vh} {u : Value}, vs[i]? = some v → us[i]? = some u → ∀ k x, (tourV v u)[k]? = some x → (toursF vs us)[i * 6 + k]? = some x
 | [], _, i, v, u, h, _, _, _, _ => by simp at h
 | _ :: _, [], i, v, u, _, h, _, _, _ => by simp at h
 | v0 :: vs, u0 :: us, 0, v, u, hv, hu, k, x, hk => by
  simp at hv hu
  subst hv; subst hu
  have hl : k < (tourV v0 u0).length := (List.getElem?_eq_some_iff.1 hk).1
  show (tourV v0 u0 ++ toursF vs us)[0 * 6 + k]? = some x
  rw [Nat.zero_mul, Nat.zero_add, List.getElem?_append_left hl]
  exact hk
 | v0 :: vs, u0 :: us, i + 1, v, u, hv, hu, k, x, hk => by
  simp at hv hu
  have := toursF_get hv hu k x hk
  show (tourV v0 u0 ++ toursF vs us)[(i + 1) * 6 + k]? = some x
  rw [List.getElem?_append_right (by simp [tourV]; omega)]
  have e : (i + 1) * 6 + k - (tourV v0 u0).length = i * 6 + k := by simp [tourV]; omega
  rw [e]
  exact this
theorem toursF_set : ∀ {vs : List Vh} {us : List Value} {i : Nat} (u : Value), i < vs.length → i < us.length → (toursF vs us).set (i * 6 + 5) u = toursF vs (us.set i u)
 | [], _, i, u, h, _ => by simp at h
 | _ :: _, [], i, u, _, h => by simp at h
 | v0 :: vs, u0 :: us, 0, u, _, _ => by simp [toursF, tourV]
 | v0 :: vs, u0 :: us, i + 1, u, hv, hu => by
  have := toursF_set (vs := vs) (us := us) (i := i) u (by simpa using hv) (by simpa using hu)
  show (tourV v0 u0 ++ toursF vs us).set ((i + 1) * 6 + 5) u = tourV v0 u0 ++ toursF vs (us.set i u)
  rw [← this, List.set_append_right _ _ (by simp [tourV]; omega)]
  have e : (i + 1) * 6 + 5 - (tourV v0 u0).length = i * 6 + 5 := by simp [tourV]; omega
  rw [e]
theorem toursF_snoc : ∀ {vs : List Vh} {us : List Value} (v : Vh) (u : Value), us.length = vs.length → toursF (vs ++ [v]) (us ++ [u]) = toursF vs us ++ tourV v u
 | [], [], v, u, _ => by simp [toursF]
 | [], _ :: _, _, _, h => by simp at h
 | _ :: _, [], _, _, h => by simp at h
 | v0 :: vs, u0 :: us, v, u, h => by
  have := toursF_snoc (vs := vs) (us := us) v u (by simpa using h)
  simp [toursF, this]
def whO (S : St) (r : Int) : Option Int := if 0 ≤ whereV S.rows r then some (whereV S.rows r) else none
theorem whO_some {S : St} {r : Int} (h : 0 ≤ whereV S.rows r) : whO S r = some (whereV S.rows r) := if_pos h
theorem whO_none {S : St} {r : Int} (h : ¬ 0 ≤ whereV S.rows r) : whO S r = none := if_neg h
theorem whO_is {S : St} {r : Int} : (whO S r).isSome = true ↔ 0 ≤ whereV S.rows r := by
 unfold whO
 split
 · rename_i h; simpa using h
 · rename_i h
   simp only [Option.isSome_none, Bool.false_eq_true, false_iff]
   exact h
theorem Ok.inT {S : St} (h : Ok S) {r : Int} (hw : 0 ≤ whereV S.rows r) : 0 ≤ r ∧ r < S.t.length := by
 obtain ⟨i, l, e, h1, h2, -⟩ := where_some hw
 have hi : i < S.vs.length := by rw [← h.len]; exact (List.getElem?_eq_some_iff.1 h1).1
 have hd := (h.dr i S.vs[i] l (List.getElem?_eq_getElem hi) h1).1
 have : ∃ s ∈ l, s.1 = r := by
  apply Classical.byContradiction
  intro hc
  have := noR_iff (r := r) (l := l).2 (fun s hs e => hc ⟨s, hs, e⟩)
  rw [this] at h2; cases h2
 obtain ⟨s, hs, rfl⟩ := this
 exact ⟨((isR_iff.1 hd.hl) s hs).1, hd.hr s hs⟩
theorem whO_in {S : St} (h : Ok S) : ∀ r, (whO S r).isSome = true → 0 ≤ r ∧ r < (1000 : Nat) := fun r hr => by
 have h1 := h.inT (whO_is.1 hr)
 have := h.tl
 omega
theorem whO_tight {S : St} (h : Ok S) {W : World} {b n : Nat} (hm : MapAt W b n (whO S)) : MapAt W b 1000 (whO S) := map_tight hm (whO_in h)
structure ProgAt (D G : Nat → Prop) (W : World) (p gt gm : Nat) (vt : Value) (cap : Nat) (us : List Value) (S : St) : Prop where
 box : At W p 80 #[.slice (some ⟨gt, 0, none⟩) S.vs.length cap, vt, .map (some gm)]
 t : RowD D W vt 10 (S.t.map rqV)
 own : W.ownsRow 0 82 6 (.slice (some ⟨gt, 0, none⟩) S.vs.length cap) S.vs.length (toursF S.vs us)
 ulen : us.length = S.vs.length
 rows : ∀ (i : Nat) u l, us[i]? = some u → S.rows[i]? = some l → RowD D W u 2 (l.map stV)
 map : MapAt W gm 1000 (whO S)
 pd : ¬ D p
 gT : G gt
 gM : G gm
 sub : ∀ k, G k → D k
 lt : ∀ k, D k → k < W.heap.size
section
variable {D G : Nat → Prop} {W W' : World} {p gt gm : Nat} {vt : Value} {cap : Nat} {us : List Value} {S : St}
theorem ProgAt.chg {E : Nat → Prop} (h : ProgAt D G W p gt gm vt cap us S) (hc : Chg E W W') (hE : ∀ k, E k → D k ∧ ¬ G k) : ProgAt D G W' p gt gm vt cap us S :=
 ⟨hc.at_ h.box (fun he => h.pd (hE p he).1), h.t.chg hc (fun k he => (hE k he).1), hc.owns h.own (fun g e he => by simp [Value.ownBlock] at e; exact (hE g he).2 (e ▸ h.gT)), h.ulen,
  fun i u l hu hl => (h.rows i u l hu hl).chg hc (fun k he => (hE k he).1), h.map.same (hc.block gm h.map.inside (fun he => (hE gm he).2 h.gM)), h.pd, h.gT, h.gM, h.sub, fun k hd => Nat.lt_of_lt_of_le (h.lt k hd) hc.size⟩
theorem ProgAt.grow {D' : Nat → Prop} (h : ProgAt D G W p gt gm vt cap us S) (hb : Below W.heap.size W W') (hg : Grew D D' W W') : ProgAt D' G W' p gt gm vt cap us S := by
 have h1 := h.chg (E := fun _ => False) (Chg.of_below hb) (fun k he => he.elim)
 have hm : ∀ {v : Value} {m : Nat} {rows : List (List Value)}, RowD D W v m rows → RowD D' W' v m rows := fun hr => (hr.more (fun k hk => hg.new k hk)).chg (E := fun _ => False) (Chg.of_below hb) (fun k he => he.elim)
 have hp := h.box.inside
 exact ⟨h1.box, hm h.t, h1.own, h.ulen, fun i u l hu hl => hm (h.rows i u l hu hl), h1.map, fun hd => (hg.new p hd).elim h.pd (fun hk => by omega), h.gT, h.gM, fun k hk => hg.up k (h.sub k hk), hg.lt⟩
theorem ProgAt.on (h : ProgAt D G W p gt gm vt cap us S) (hb : Below W.heap.size W W') : ProgAt D G W' p gt gm vt cap us S := h.chg (E := fun _ => False) (Chg.of_below hb) (fun k he => he.elim)
theorem ProgAt.gtIn (h : ProgAt D G W p gt gm vt cap us S) : gt < W.heap.size := (World.ownsRow.lt h.own gt rfl).2
theorem ProgAt.bd (h : ProgAt D G W p gt gm vt cap us S) : S.vs.length ≤ cap ∧ cap ≤ maxLen := by
 obtain ⟨hl, ⟨h1, _⟩ | ⟨g, c, cur, e, hb, hg, hc1, hc2, hs, ht⟩⟩ := h.own
 · cases h1
 · cases e; exact ⟨hc1, hc2⟩
theorem ProgAt.cells (h : ProgAt D G W p gt gm vt cap us S) {i : Nat} {v : Vh} (hv : S.vs[i]? = some v) : ∃ u, us[i]? = some u ∧
 W.cell? ⟨gt, i * 6, none⟩ = some (.int .i64 v.hx) ∧ W.cell? ⟨gt, i * 6 + 1, none⟩ = some (.int .i64 v.hy) ∧ W.cell? ⟨gt, i * 6 + 2, none⟩ = some (.int .i64 v.cp) ∧ W.cell? ⟨gt, i * 6 + 3, none⟩ = some (.int .i64 v.st) ∧ W.cell? ⟨gt, i * 6 + 4, none⟩ = some (.int .i64 v.en) ∧ W.cell? ⟨gt, i * 6 + 5, none⟩ = some u := by
 have hi := (List.getElem?_eq_some_iff.1 hv).1
 have hu : us[i]? = some (us[i]'(by rw [h.ulen]; exact hi)) := List.getElem?_eq_getElem _
 refine ⟨_, hu, ?_⟩
 have hc : ∀ k x, k < 6 → (tourV v (us[i]'(by rw [h.ulen]; exact hi)))[k]? = some x → W.cell? ⟨gt, i * 6 + k, none⟩ = some x := fun k x hk hx => by
  rw [h.own.cellAt (i * 6 + k) (by omega)]
  exact toursF_get hv hu k x hx
 exact ⟨hc 0 _ (by decide) rfl, hc 1 _ (by decide) rfl, hc 2 _ (by decide) rfl, hc 3 _ (by decide) rfl, hc 4 _ (by decide) rfl, hc 5 _ (by decide) rfl⟩
theorem ProgAt.set (h : ProgAt D G W p gt gm vt cap us S) {i : Nat} (hi : i < S.vs.length) {u : Value} {m : List (Int × Int)} (hm : RowD D W u 2 (m.map stV)) (hr : S.rows.length = S.vs.length) :
 At (W.setCell ⟨gt, i * 6 + 5, none⟩ u) p 80 #[.slice (some ⟨gt, 0, none⟩) S.vs.length cap, vt, .map (some gm)] ∧ RowD D (W.setCell ⟨gt, i * 6 + 5, none⟩ u) vt 10 (S.t.map rqV) ∧
 (W.setCell ⟨gt, i * 6 + 5, none⟩ u).ownsRow 0 82 6 (.slice (some ⟨gt, 0, none⟩) S.vs.length cap) S.vs.length (toursF S.vs (us.set i u)) ∧
 (∀ (j : Nat) u' l, (us.set i u)[j]? = some u' → (S.rows.set i m)[j]? = some l → RowD D (W.setCell ⟨gt, i * 6 + 5, none⟩ u) u' 2 (l.map stV)) ∧
 (gt ≠ gm → MapAt (W.setCell ⟨gt, i * 6 + 5, none⟩ u) gm 1000 (whO S)) := by
 have hc : Chg (fun k => k = gt) W (W.setCell ⟨gt, i * 6 + 5, none⟩ u) := Chg.set (D := fun k => k = gt) W (g := gt) rfl (i * 6 + 5) u
 have hE : ∀ k, k = gt → D k := fun k e => by rw [e]; exact h.sub _ h.gT
 have hlu : i < us.length := by rw [h.ulen]; exact hi
 refine ⟨hc.at_ h.box (fun e => h.pd (hE _ e)), h.t.chg hc hE, ?_, ?_, fun hne => h.map.same (hc.block gm h.map.inside (fun e => hne e.symm))⟩
 · have := (h.own.stored (i * 6 + 5) u).1
   rw [toursF_set u hi hlu] at this
   exact this
 · intro j u' l' hu' hl'
   rcases set_get hlu hu' with ⟨rfl, rfl⟩ | ⟨hj, h1⟩
   · rcases set_get (by rw [hr]; exact hi) hl' with ⟨_, rfl⟩ | ⟨h2, _⟩
     · exact hm.chg hc hE
     · exact absurd rfl h2
   · rcases set_get (by rw [hr]; exact hi) hl' with ⟨h2, _⟩ | ⟨_, h2⟩
     · exact absurd h2 hj
     · exact (h.rows j u' l' h1 h2).chg hc hE
end
theorem map_ne {W : World} {g b n : Nat} {t : TypeId} {cs : Array Value} {f : Int → Option Int} (h1 : W.heap[g]? = some (.cells cs t (0, 0))) (h2 : MapAt W b n f) : g ≠ b := by
 rintro rfl
 obtain ⟨D, ⟨es, clock, hb, _⟩, _⟩ := h2
 have e := h1.symm.trans hb
 cases e
theorem own_map_ne {W : World} {base size n b m : Nat} {t : TypeId} {v : Value} {xs : List Value} {f : Int → Option Int} (h1 : W.ownsRow base t size v n xs) (h2 : MapAt W b m f) : v.ownBlock ≠ some b := by
 intro e2
 obtain ⟨-, ⟨rfl, -⟩ | ⟨g2, c2, cur2, rfl, -, hg2, -⟩⟩ := h1
 · cases e2
 simp only [Value.ownBlock, Option.some.injEq] at e2
 exact map_ne hg2 h2 e2
def PlanAt (D G : Nat → Prop) (W : World) (p : Nat) (S : St) : Prop := ∃ (gt gm : Nat) (vt : Value) (cap : Nat) (us : List Value), ProgAt D G W p gt gm vt cap us S
theorem PlanAt.chg {D G E : Nat → Prop} {W W' : World} {p : Nat} {S : St} (h : PlanAt D G W p S) (hc : Chg E W W') (hE : ∀ k, E k → D k ∧ ¬ G k) : PlanAt D G W' p S := by
 obtain ⟨gt, gm, vt, cap, us, h⟩ := h
 exact ⟨gt, gm, vt, cap, us, h.chg hc hE⟩
theorem PlanAt.grow {D D' G : Nat → Prop} {W W' : World} {p : Nat} {S : St} (h : PlanAt D G W p S) (hb : Below W.heap.size W W') (hg : Grew D D' W W') : PlanAt D' G W' p S := by
 obtain ⟨gt, gm, vt, cap, us, h⟩ := h
 exact ⟨gt, gm, vt, cap, us, h.grow hb hg⟩
theorem PlanAt.sub {D G : Nat → Prop} {W : World} {p : Nat} {S : St} (h : PlanAt D G W p S) : ∀ k, G k → D k := by
 obtain ⟨gt, gm, vt, cap, us, h⟩ := h
 exact h.sub
theorem PlanAt.lt {D G : Nat → Prop} {W : World} {p : Nat} {S : St} (h : PlanAt D G W p S) : ∀ k, D k → k < W.heap.size := by
 obtain ⟨gt, gm, vt, cap, us, h⟩ := h
 exact h.lt
theorem ProgAt.made {M : Nat} {W : World} {p gt gm n : Nat} {vt : Value} {cap : Nat} {us : List Value} {S : St} (hp : At W p 80 #[.slice (some ⟨gt, 0, none⟩) S.vs.length cap, vt, .map (some gm)]) (hpM : M ≤ p)
 (ht : W.ownsRow M 68 10 vt S.t.length (flatQ S.t)) (ho : W.ownsRow M 82 6 (.slice (some ⟨gt, 0, none⟩) S.vs.length cap) S.vs.length (toursF S.vs us)) (hl : us.length = S.vs.length)
 (hr : ∀ (i : Nat) u l, us[i]? = some u → S.rows[i]? = some l → W.ownsRow M 61 2 u l.length (flatS l)) (hm : MapAt W gm n (whO S)) (hmM : M ≤ gm) (hn : n ≤ 1000)
 {D : Nat → Prop} (hD : ∀ k, D k → k = gt ∨ k = gm ∨ k < M) (hT : D gt) (hMm : D gm) : ProgAt D (fun k => k = gt ∨ k = gm) W p gt gm vt cap us S := by
 have hgt := World.ownsRow.lt ho gt rfl
 have off : ∀ {v : Value} {e : TypeId} {size n : Nat} {xs : List Value}, W.ownsRow M e size v n xs → e ≠ 82 → Off D v := fun h1 hne g e hd => by
  rcases hD g hd with rfl | rfl | hk
  · exact own_ne h1 ho hne g e rfl
  · exact own_map_ne h1 hm e
  · have := (World.ownsRow.lt h1 g e).1; omega
 refine ⟨hp, ⟨RowB.of_owns ht (by simp) (fun r hr => by obtain ⟨s, _, rfl⟩ := List.mem_map.1 hr; rfl) (Nat.le_refl _), fun _ => off ht (by decide)⟩, owns_more ho (Nat.zero_le _), hl, fun i u l hu hl2 => ⟨Row.of_owns (hr i u l hu hl2) rfl (Nat.le_refl _), fun _ => off (hr i u l hu hl2) (by decide)⟩, hm.more hn, fun hd => ?_, .inl rfl, .inr rfl, fun k hk => hk.elim (fun e => by rw [e]; exact hT) (fun e => by rw [e]; exact hMm), fun k hd => ?_⟩
 · rcases hD p hd with e | e | e
   · exact own_at_ne hp ho (by decide) (by rw [e]; rfl)
   · exact map_ne hp hm e
   · omega
 · rcases hD k hd with rfl | rfl | e
   · exact hgt.2
   · exact hm.inside
   · omega
end Go.Proofs.YteclpblfleakhaaDoor.Plan
namespace Go.Proofs.YteclpblfleakhaaDoor.Plan
open Go.RowKit Go.Sort Go.Proofs.YteclpblfleakhaaDoor.Mem Go.Proofs.YteclpblfleakhaaDoor.Route Go.Proofs.YteclpblfleakhaaDoor.When Go.Proofs.YteclpblfleakhaaDoor.Load Go.Proofs.YteclpblfleakhaaDoor.Ins Go.Proofs.YteclpblfleakhaaDoor.Cheap
set_option linter.unusedVariables false
set_option maxHeartbeats 1000000 in
theorem Where_same {D G : Nat → Prop} {p : Nat} {S : St} (r : Int) (w : World) (h : PlanAt D G w p S) (hr : I64 r) :
 Calls Tryd.prog 25 #[.pointer (some ⟨p, 0, none⟩), .int .i64 r] w fun e w' => e = .returned (.int .i64 (whereV S.rows r)) ∧ w' = w := by
 obtain ⟨gt, gm, vt, cap, us, h⟩ := h
 have b2 := h.box.cell 2
 simp at b2
 have hp := h.box.inside
 have hkey := key_lit hr
 obtain ⟨D, hown, hD⟩ := h.map
 obtain ⟨h1, h2⟩ := hD r
 clear hD h
 by_cases hw : 0 ≤ whereV S.rows r
 · rw [whO_some hw] at h1 h2
   have h1' : Maps.has D (.int .i64 r) = true := h1
   have hc := Lib.hid h2
   clear h1 h2 hw
   go_enter Tryd.func25, Tryd.ntmps25
   go_wp2_with (at_lookup; refine wpList_lookup_own_ok_int _ rfl _ _ 78 rfl 3 3 .i64 (Maps.int_keyed Tryd.underlying3) Tryd.underlying78 Tryd.underlying3 (Tryd.zeroValue3 _) gm 1000 D rfl hown _ _ rfl hkey ?_; intro c hat hwc; rw [h1']; have hcc := Lib.hid (lit_inj (hat.symm.trans hc.out)); clear hat hwc)
   go_ret
   exact ⟨Route.ret_int hcc.out, rfl⟩
 · have hn := Lib.hid (where_no (where_neg.1 (by omega : whereV S.rows r < 0)))
   rw [whO_none hw] at h1
   have h1' : Maps.has D (.int .i64 r) = false := h1
   clear h1 h2 hw
   go_enter Tryd.func25, Tryd.ntmps25
   go_wp2_with (at_lookup; refine wpList_lookup_own_ok_int _ rfl _ _ 78 rfl 3 3 .i64 (Maps.int_keyed Tryd.underlying3) Tryd.underlying78 Tryd.underlying3 (Tryd.zeroValue3 _) gm 1000 D rfl hown _ _ rfl hkey ?_; intro c hat hwc; rw [h1']; clear hat hwc)
   go_ret
   exact ⟨Route.ret_int hn.out.symm, rfl⟩
theorem Has_same {D G : Nat → Prop} {p : Nat} {S : St} (r : Int) (w : World) (h : PlanAt D G w p S) (hr : I64 r) :
 Calls Tryd.prog 11 #[.pointer (some ⟨p, 0, none⟩), .int .i64 r] w fun e w' => e = .returned (.bool (decide (0 ≤ whereV S.rows r))) ∧ w' = w := by
 have hW := Where_same r w h hr
 obtain ⟨V, hV⟩ : ∃ V, whereV S.rows r = V := ⟨_, rfl⟩
 rw [hV] at hW ⊢
 clear hV
 go_enter Tryd.func11, Tryd.ntmps11
 go_wp2_with fail
 refine hW.mono ?_
 clear hW
 rintro e w2 ⟨rfl, rfl⟩
 by_cases hV : 0 ≤ V
 · have hd := Lib.hid (show true = decide (0 ≤ V) by simp [hV])
   go_wp2
   go_ret
   exact ⟨by first | rfl | exact Route.ret_bool hd.out, rfl⟩
 · have hd := Lib.hid (show false = decide (0 ≤ V) by simp [hV])
   go_wp2
   go_ret
   exact ⟨by first | rfl | exact Route.ret_bool hd.out, rfl⟩
theorem Has_any {D G : Nat → Prop} {p : Nat} {S : St} (r : Int) (w : World) (h : PlanAt D G w p S) (ho : Ok S) (hr : I64 r := by (first | assumption | (unfold I64; omega))) :
 Calls Tryd.prog 11 #[.pointer (some ⟨p, 0, none⟩), .int .i64 r] w fun e w' => e = .returned (.bool (decide (0 ≤ whereV S.rows r))) ∧ Below w.heap.size w w' :=
 (Has_same r w h hr).mono fun e w' ⟨h1, h2⟩ => ⟨h1, by rw [h2]; exact Below.refl _ _⟩
set_option maxHeartbeats 1000000 in
theorem takes_any (v : Vh) (u vt : Value) (l : List (Int × Int)) (t : List Rq) (hl : l.length ≤ 1000000) (hnum : Nums l) (hst : 0 ≤ v.st ∧ v.st ≤ 1048576) (w : World) (hL : Row w.heap.size w u l) (hT : Rqs w.heap.size w vt t) :
 Calls Tryd.prog 35 #[.agg #[.int .i64 v.hx, .int .i64 v.hy, .int .i64 v.cp, .int .i64 v.st, .int .i64 v.en, u], vt] w fun e w' =>
  e = .returned (.int .i64 (homeT v l t - v.st)) ∧ Below w.heap.size w w' := by
 obtain ⟨q, hq⟩ : ∃ q, w.heap.size = q := ⟨_, rfl⟩
 obtain ⟨xu, Nu, cu, rfl, -⟩ := hL.opened
 obtain ⟨xt, Nt, ct, rfl, -⟩ := hT.opened
 obtain ⟨w1, hw1⟩ : ∃ w1, w.alloc (.cells #[.int .i64 v.hx, .int .i64 v.hy, .int .i64 v.cp, .int .i64 v.st, .int .i64 v.en, .slice xu Nu cu] 82) = w1 := ⟨_, rfl⟩
 have hA : At w1 q 82 #[.int .i64 v.hx, .int .i64 v.hy, .int .i64 v.cp, .int .i64 v.st, .int .i64 v.en, .slice xu Nu cu] := by rw [← hw1]; exact At.new_ _ _ _ hq.symm
 have hb1 : Below w.heap.size w w1 := by rw [← hw1]; exact (Below.refl _ _).alloc (Nat.le_refl _) _
 have hTm := Times_any v _ _ l t hl hnum w1 (hL.on hb1) (hT.on hb1)
 have hhb := homeT_bd v l t
 obtain ⟨H, hH⟩ : ∃ H, homeT v l t = H := ⟨_, rfl⟩
 rw [hH] at hTm hhb ⊢
 have a0 := hA.cell 0
 have a1 := hA.cell 1
 have a2 := hA.cell 2
 have a3 := hA.cell 3
 have a4 := hA.cell 4
 have a5 := hA.cell 5
 simp at a0 a1 a2 a3 a4 a5
 have hqi := hA.inside
 have hw1' := Lib.hid hw1
 have hq' := Lib.hid hq
 have hb1' := Lib.hid hb1
 have hsz := hb1.size
 clear hL hT hw1 hq hb1 hnum hH
 go_enter Tryd.func35, Tryd.ntmps35
 go_upto_region 1 with fail
 try simp only [hq'.out]
 try rw [hw1'.out]
 go_wp2_with fail
 refine hTm.mono ?_
 clear hTm
 rintro e w2 ⟨⟨u9, rfl, hu9⟩, hb2⟩
 have hA2 := hA.keep hb2 hqi
 have hB2 := Lib.hid (hb1'.out.trans (hb2.mono hsz))
 obtain ⟨y9, N9, c9, rfl, -⟩ := hu9.opened
 clear a0 a1 a2 a3 a4 a5 hb2 hu9
 have a3 := hA2.cell 3
 simp at a3
 have hq2 := hA2.inside
 clear hA hA2
 go_wp2
 go_ret
 exact ⟨rfl, hB2.out⟩
set_option maxRecDepth 100000 in
set_option maxHeartbeats 4000000 in
theorem Total_any {D G : Nat → Prop} {p : Nat} {S : St} (w : World) (h : PlanAt D G w p S) (ho : Ok S) :
 Calls Tryd.prog 16 #[.pointer (some ⟨p, 0, none⟩)] w fun e w' => e = .returned (.int .i64 (totS S)) ∧ Below w.heap.size w w' := by
 obtain ⟨gt, gm, vt, cap, us, h⟩ := h
 obtain ⟨xt, Nt, ct, rfl, hNt0, htc1, htc2, -⟩ := Rqs.opened (show Rqs w.heap.size w vt S.t from h.t.1)
 obtain ⟨hc1, hc2⟩ := h.bd
 unfold maxLen at htc2 hc2
 obtain ⟨N, hN0⟩ : ∃ N, S.vs.length = N := ⟨_, rfl⟩
 have hN4 : N ≤ 4 := by rw [← hN0]; exact ho.cnt.2
 have hbx := h.box
 rw [hN0] at hbx hc1
 have b0 := hbx.cell 0
 simp at b0
 have hp := h.box.inside
 have h' := Lib.hid h
 have ho' := Lib.hid ho
 have hbx' := Lib.hid hbx
 have hN := Lib.hid hN0
 clear h ho hNt0 hN0 hbx
 go_enter Tryd.func16, Tryd.ntmps16
 go_wp2
 go_loopw [3, 13] (fun n i wr => ∃ k : Nat, k ≤ N ∧ i = .int .i64 k ∧ n = .int .i64 (totK S k) ∧ Below w.heap.size w wr)
  (fun _ c _ => N - (intOf c).toNat)
 case atStart => exact ⟨0, Nat.zero_le _, rfl, by rw [totK_zero], Below.refl _ _⟩
 case round =>
  obtain ⟨k, hk, rfl, rfl, hbw⟩ := hrel
  have hA := h'.out.on hbw
  clear b0
  by_cases hlt : k < N
  · obtain ⟨v, hv⟩ : ∃ v, S.vs[k]? = some v := ⟨S.vs[k]'(by rw [hN.out]; exact hlt), List.getElem?_eq_getElem _⟩
    obtain ⟨l, hl⟩ : ∃ l, S.rows[k]? = some l := ⟨S.rows[k]'(by rw [ho'.out.len, hN.out]; exact hlt), List.getElem?_eq_getElem _⟩
    obtain ⟨u, hu, q0, q1, q2, q3, q4, q5⟩ := hA.cells hv
    have hrow := (hA.rows k u l hu hl).1
    have hgt := hA.gtIn
    obtain ⟨hd, he, -, hnum⟩ := ho'.out.dr k v l hv hl
    have hnx := Lib.hid (totK_next hv hl)
    have hbd := totK_bd ho'.out k (by rw [hN.out]; omega)
    have hst := ho'.out.stb hv
    have hhb := homeT_bd v l S.t
    have hl16 : l.length ≤ 1000000 := by have := hd.hn; omega
    have hkF : (k : Int) < (N : Int) := by omega
    have hkN := Lib.hid hlt
    obtain ⟨xu, Nu, cu, rfl, -⟩ := Row.opened (show Row wr.heap.size wr u l from hrow)
    obtain ⟨w1, hw1⟩ : ∃ w1, wr.alloc (.cells #[.int .i64 v.hx, .int .i64 v.hy, .int .i64 v.cp, .int .i64 v.st, .int .i64 v.en, .slice xu Nu cu] 82) = w1 := ⟨_, rfl⟩
    obtain ⟨q, hq⟩ : ∃ q, wr.heap.size = q := ⟨_, rfl⟩
    have hA1 : At w1 q 82 #[.int .i64 v.hx, .int .i64 v.hy, .int .i64 v.cp, .int .i64 v.st, .int .i64 v.en, .slice xu Nu cu] := by rw [← hw1]; exact At.new_ _ _ _ hq.symm
    have hb1 : Below wr.heap.size wr w1 := by rw [← hw1]; exact (Below.refl _ _).alloc (Nat.le_refl _) _
    have hP1 := hbx'.out.keep (hbw.trans (hb1.mono hbw.size)) hbx'.out.inside
    have hC := fun d os => Calls.regrown_of (takes_any v _ _ l S.t hl16 hnum hst (grow (redrawn w1 d) os) ((Row.on (show Row wr.heap.size wr _ l from hrow) hb1).on (below_regrown w1 d os)) ((Rqs.on (show Rqs wr.heap.size wr (.slice xt Nt ct) S.t from hA.t.1) hb1).on (below_regrown w1 d os)))
    obtain ⟨H, hH⟩ : ∃ H, homeT v l S.t = H := ⟨_, rfl⟩
    rw [hH] at hnx hhb hC
    have a0 := hA1.cell 0
    have a1 := hA1.cell 1
    have a2 := hA1.cell 2
    have a3 := hA1.cell 3
    have a4 := hA1.cell 4
    have a5 := hA1.cell 5
    have b1 := hP1.cell 1
    simp at a0 a1 a2 a3 a4 a5 b1
    have r0 := cell_regrown a0
    have r1 := cell_regrown a1
    have r2 := cell_regrown a2
    have r3 := cell_regrown a3
    have r4 := cell_regrown a4
    have r5 := cell_regrown a5
    have rb := cell_regrown b1
    have hqi := hA1.inside
    have hpi := hP1.inside
    have hb1' := Lib.hid (hbw.trans (hb1.mono hbw.size))
    have hbo' := Lib.hid hbw
    have hsz : w.heap.size ≤ w1.heap.size := hb1'.out.size
    have hw1' := Lib.hid hw1
    have hq' := Lib.hid hq
    obtain ⟨n0, hn0⟩ : ∃ n, totK S k = n := ⟨_, rfl⟩
    have hb3 : -(1048576 * 4) ≤ n0 ∧ n0 ≤ 3000000 * 4 := by rw [← hn0]; omega
    rw [hn0] at hnx ⊢
    clear hv hl hu hrow hd he hnum hbw hH hbd hA hn0 hw1 hq hb1 hA1 hP1
    have b0 := (hbx'.out.keep hbo'.out hbx'.out.inside).cell 0
    simp at b0
    have hpo := (hbx'.out.keep hbo'.out hbx'.out.inside).inside
    go_upto_region 7 with fail
    try simp only [hq'.out]
    rw [hw1'.out]
    clear q0 q1 q2 q3 q4 q5 b0
    refine wp_region_quiet_below (by kernel_rfl) (by kernel_rfl) ?_
    repeat (go_big_quiet_step (with_reducible exact hC _ _))
    refine wpQuiet_nil ?_
    intro _ hw'
    obtain ⟨⟨dr, osr⟩, hw''⟩ := hw'
    subst hw''
    have hB2 := Lib.hid (hb1'.out.trans ((below_regrown w1 dr osr).mono hsz))
    clear hC r0 r1 r2 r3 r4 r5 rb a0 a1 a2 a3 a4 a5 b1
    go_wp2
    go_roundw
    case rel => exact ⟨k + 1, hkN.out, by go_num, by rw [hnx.out]; go_num, hB2.out⟩
    case measure => simp [intOf]; omega
  · obtain rfl : k = N := by omega
    have he := Lib.hid (totK_all ho'.out hN.out.symm)
    clear hA
    go_wp2
    go_ret
    exact ⟨Route.ret_int he.out, hbw⟩
end Go.Proofs.YteclpblfleakhaaDoor.Plan

import Derived.Test.YteclpblfleakhaaGreatDoorPkPriceRef
import Derived.Test.YteclpblfleakhaaGreatDoorPkTailIn
import Derived.Shelf.SlIterI.Nil
import Derived.Shelf.SlicesE.Clone
import Derived.Sort.WalkA

namespace Go.Proofs.YteclpblfleakhaaGreatDoor.Price
open Go.RowKit Go.Sort Go.Shelf Go.Maps Go.Proofs.YteclpblfleakhaaGreatDoor.Mem Go.Proofs.YteclpblfleakhaaGreatDoor.Route Go.Proofs.YteclpblfleakhaaGreatDoor.When Go.Proofs.YteclpblfleakhaaGreatDoor.Load Go.Proofs.YteclpblfleakhaaGreatDoor.Feas Go.Proofs.YteclpblfleakhaaGreatDoor.Ins Go.Proofs.YteclpblfleakhaaGreatDoor.Cheap Go.Proofs.YteclpblfleakhaaGreatDoor.Plan Go.Proofs.YteclpblfleakhaaGreatDoor.Up
set_option linter.unusedVariables false
attribute [local go_sem] Oper.semAt_some
def byF (rows : List (List (Int × Int))) (k : Nat) (pre : List (Int × Int)) (r : Int) : Option Int :=
 if noR r pre = false then some (k : Int) else if 0 ≤ whereV (rows.take k) r then some (whereV (rows.take k) r) else none
theorem byF_zero (rows : List (List (Int × Int))) (r : Int) : byF rows 0 [] r = none := by
 unfold byF
 rw [if_neg (by simp [noR]), if_neg]
 rw [List.take_zero]
 have : whereV [] r < 0 := where_neg.2 (by simp)
 omega
theorem byF_in {rows : List (List (Int × Int))} {k : Nat} {pre : List (Int × Int)} {r : Int} (h : noR r pre = false) : byF rows k pre r = some (k : Int) := if_pos h
theorem byF_off {rows : List (List (Int × Int))} {k : Nat} {pre : List (Int × Int)} {r : Int} (h : noR r pre = true) (h2 : 0 ≤ whereV (rows.take k) r) : byF rows k pre r = some (whereV (rows.take k) r) := by
 unfold byF; rw [if_neg (by simp [h]), if_pos h2]
theorem byF_no {rows : List (List (Int × Int))} {k : Nat} {pre : List (Int × Int)} {r : Int} (h : noR r pre = true) (h2 : ¬ 0 ≤ whereV (rows.take k) r) : byF rows k pre r = none := by
 unfold byF; rw [if_neg (by simp [h]), if_neg h2]
theorem noR_snoc {q : Int} {pre : List (Int × Int)} {s : Int × Int} : noR q (pre ++ [s]) = (noR q pre && decide (s.1 ≠ q)) := by
 cases h : (noR q pre && decide (s.1 ≠ q))
 · rw [Bool.and_eq_false_iff] at h
   rcases h with h | h
   · obtain ⟨x, hx, e⟩ := noR_mem h
     exact noR_of (List.mem_append_left _ hx) e
   · exact noR_of (s := s) (by simp) (by simpa using h)
 · rw [Bool.and_eq_true, decide_eq_true_eq] at h
   refine noR_iff.2 fun x hx => ?_
   rcases List.mem_append.1 hx with hx | hx
   · exact noR_iff.1 h.1 x hx
   · obtain rfl := List.mem_singleton.1 hx
     exact h.2
theorem byF_put (rows : List (List (Int × Int))) (k : Nat) (pre : List (Int × Int)) (s : Int × Int) (q : Int) : byF rows k (pre ++ [s]) q = (fun q => if q = s.1 then some (k : Int) else byF rows k pre q) q := by
 show _ = if q = s.1 then some (k : Int) else byF rows k pre q
 by_cases h : q = s.1
 · rw [if_pos h, byF_in (noR_of (s := s) (by simp) h.symm)]
 · rw [if_neg h]
   unfold byF
   have hd : decide (s.1 ≠ q) = true := by simpa using fun e => h e.symm
   rw [noR_snoc, hd, Bool.and_true]
theorem off_where {l : List (Int × Int)} {ls : List (List (Int × Int))} : offB l ls = true ↔ ∀ s ∈ l, whereV ls s.1 < 0 := by
 rw [offB_iff]
 exact ⟨fun h s hs => where_neg.2 (fun m hm => h s hs m hm), fun h s hs m hm => where_neg.1 (h s hs) m hm⟩
theorem byF_row {rows : List (List (Int × Int))} {k : Nat} {l : List (Int × Int)} (hl : rows[k]? = some l) (ho : ∀ s ∈ l, whereV (rows.take k) s.1 < 0) (r : Int) : byF rows (k + 1) [] r = byF rows k l r := by
 obtain ⟨hk, hx⟩ := List.getElem?_eq_some_iff.1 hl
 have ht : rows.take (k + 1) = rows.take k ++ [l] := by rw [List.take_add_one, hl]; rfl
 have hn : noR r [] = true := by simp [noR]
 have hlk : (rows.take k).length = k := by rw [List.length_take]; omega
 cases h : noR r l
 · obtain ⟨s, hs, rfl⟩ := noR_mem h
   have h1 : whereV (rows.take (k + 1)) s.1 = k := by
    refine where_at (l := l) ?_ h ?_
    · rw [ht, List.getElem?_append_right (by omega), hlk]; simp
    · rw [ht, List.take_append_of_le_length (by omega), List.take_of_length_le (by omega)]
      exact fun x hx => where_neg.1 (ho s hs) x hx
   rw [byF_in h, byF_off hn (by rw [h1]; omega), h1]
 · by_cases h2 : 0 ≤ whereV (rows.take k) r
   · obtain ⟨i, l', e, hi, h3, h4⟩ := where_some h2
     have hik : i < k := by have := (List.getElem?_eq_some_iff.1 hi).1; omega
     have h1 : whereV (rows.take (k + 1)) r = i := by
      refine where_at (l := l') ?_ h3 ?_
      · rw [ht, List.getElem?_append_left (by omega)]; exact hi
      · rw [ht, List.take_append_of_le_length (by omega)]; exact h4
     rw [byF_off h h2, byF_off hn (by rw [h1]; omega), h1, e]
   · rw [byF_no h h2, byF_no hn]
     have h1 : whereV (rows.take (k + 1)) r < 0 := where_neg.2 fun x hx => by
      rw [ht] at hx
      rcases List.mem_append.1 hx with hx | hx
      · exact where_neg.1 (by omega) x hx
      · obtain rfl := List.mem_singleton.1 hx
        exact h
     omega
def goodA (S : St) (y : Nat × Vh × Value) : Bool :=
 match S.vs[y.1]?, S.rows[y.1]? with
 | some v, some l => okF v l S.t && offB l (S.rows.take y.1)
 | _, _ => false
theorem goodA_at {S : St} {k : Nat} {v : Vh} {l : List (Int × Int)} {v' : Vh} {u : Value} (hv : S.vs[k]? = some v) (hl : S.rows[k]? = some l) : goodA S (k, v', u) = (okF v l S.t && offB l (S.rows.take k)) := by unfold goodA; rw [hv, hl]
structure AskM (w : World) (q : Nat) (vt vf vr : Value) (W : World) : Prop where
 ht : At W q 37 #[vt]
 res : At W (q + 1) 4 #[.bool false]
 own : At W (q + 3) 76 #[.map (some (q + 2))]
 hf : At W (q + 4) 35 #[vf]
 hr : At W (q + 5) 36 #[vr]
 below : Below q w W
theorem AskM.step {w : World} {q : Nat} {vt vf vr : Value} {W W' : World} (h : AskM w q vt vf vr W) (hb : Below q W W') (hk : ∀ k, q ≤ k → k < q + 6 → k ≠ q + 2 → W'.heap[k]? = W.heap[k]?) : AskM w q vt vf vr W' :=
 ⟨(hk q (by omega) (by omega) (by omega)).trans h.ht, (hk _ (by omega) (by omega) (by omega)).trans h.res, (hk _ (by omega) (by omega) (by omega)).trans h.own, (hk _ (by omega) (by omega) (by omega)).trans h.hf, (hk _ (by omega) (by omega) (by omega)).trans h.hr, h.below.trans hb⟩
theorem AskM.inside {w : World} {q : Nat} {vt vf vr : Value} {W : World} (h : AskM w q vt vf vr W) : q + 6 ≤ W.heap.size := h.hr.inside
theorem AskM.on {w : World} {q : Nat} {vt vf vr : Value} {W W' : World} (h : AskM w q vt vf vr W) (hb : Below W.heap.size W W') : AskM w q vt vf vr W' :=
 h.step (hb.mono (by have := h.inside; omega)) (fun k _ h2 _ => hb.block k (by have := h.inside; omega))
theorem AskM.no {w : World} {q : Nat} {vt vf vr : Value} {W : World} (h : AskM w q vt vf vr W) : AskM w q vt vf vr (W.setCell ⟨q + 1, 0, none⟩ (.bool false)) :=
 ⟨h.ht.far (by omega) _ _, by simpa using h.res.put 0 (.bool false), h.own.far (by omega) _ _, h.hf.far (by omega) _ _, h.hr.far (by omega) _ _, h.below.setCell (by simp) _⟩
theorem AskM.wrote {w : World} {q : Nat} {vt vf vr : Value} {W W' : World} (h : AskM w q vt vf vr W) (hg : W.grownBy W' (some (q + 2))) : AskM w q vt vf vr W' :=
 h.step ((Below.refl q W).grown hg (by have := h.inside; omega) (fun k e => by cases e; omega)) (fun k _ h2 h3 => hg.block k (by have := h.inside; omega) (fun e => by cases e; exact h3 rfl))
structure AskI (S : St) (w : World) (q : Nat) (vt vf vr : Value) (pre : List (Nat × Vh × Value)) (W : World) : Prop where
 m : AskM w q vt vf vr W
 good : (∀ y ∈ pre, goodA S y = true) → MapAt W (q + 2) (100 * pre.length) (byF S.rows pre.length []) ∧ okK S pre.length
theorem AskI.old {S : St} {w : World} {q : Nat} {vt vf vr : Value} : Old (q + 6) (AskI S w q vt vf vr) := by
 rintro pre A A' row ⟨h1, h2⟩ hg hr
 have hs := h1.inside
 have hb : ∀ k, k < q + 6 → A'.heap[k]? = A.heap[k]? := fun k hk => hg.block k (by omega) (fun e => by have := (hr k e.symm).1; omega)
 exact ⟨h1.step ((Below.refl q A).grown hg (by omega) (fun k e => by have := (hr k e).1; omega)) (fun k _ h3 _ => hb k h3), fun hh => ⟨(h2 hh).1.same (hb _ (by omega)), (h2 hh).2⟩⟩
theorem good_all {S : St} {us : List Value} (h : mayS S = true) (hu : us.length = S.vs.length) : ∀ y ∈ toursL 0 S.vs us, goodA S y = true := by
 intro y hy
 obtain ⟨pre, rest, e⟩ := List.append_of_mem hy
 obtain ⟨h1, h2, -⟩ := toursL_at e
 obtain ⟨-, hl, hall⟩ := mayS_iff.1 h
 have hk := (List.getElem?_eq_some_iff.1 h2).1
 have hr : S.rows[pre.length]? = some (S.rows[pre.length]'(by omega)) := List.getElem?_eq_getElem _
 obtain ⟨yk, v, u⟩ := y
 simp only [Nat.zero_add] at h1 h2
 subst h1
 rw [goodA_at h2 hr]
 have := hall _ _ _ h2 hr
 rw [this.1, this.2]
 rfl
theorem held_below {n : Nat} {V W : World} (hb : Below V.heap.size V W) (hn : n + 1 < V.heap.size) : Held n V W := ⟨hb.size, hb.block n (by omega), hb.block (n + 1) hn⟩
theorem below_put {q n : Nat} {W : World} (h : q ≤ n) (hD : W.heap[n]? = some (.deferred (some []))) : Below q W (W.putObj n (.deferred none)) :=
 (Below.refl q W).grown (grownBy_putObj' W n (.deferred none)) (by have := (Array.getElem?_eq_some_iff.1 hD).1; omega) (fun k e => by cases e; exact h)
set_option maxRecDepth 100000 in
set_option maxHeartbeats 16000000 in
theorem ask_any {vf vr vt : Value} (S : St) (r : Int) (w : World) (hF : Vhs w.heap.size w vf S.vs) (hR : Rws w.heap.size w vr S.rows) (hT : Rqs w.heap.size w vt S.t) (hlen : ∀ l ∈ S.rows, l.length ≤ 100) (hnum : ∀ l ∈ S.rows, Nums l) (ht : S.t.length ≤ 1000) :
 Calls Tryz.prog 38 #[vf, vr, vt, .int .i64 r] w fun e w' => e = .returned (.bool (mayS S && clearS S r)) ∧ Below w.heap.size w w' := by
 obtain ⟨us, hus1, hus2, hus3⟩ := id hR
 obtain ⟨xf, Nf, cf, rfl, hNf0, hfc1, hfc2, -⟩ := Vhs.opened hF
 obtain ⟨xr, Nr, cr, rfl, hNr0, hrc1, hrc2⟩ := Rws.opened hR
 obtain ⟨xt, Nt, ct, rfl, hNt0, htc1, htc2, -⟩ := Rqs.opened hT
 unfold maxLen at hfc2 hrc2 htc2
 obtain ⟨q, hq⟩ : ∃ q, w.heap.size = q := ⟨_, rfl⟩
 rw [hq] at hF hR hT hus2 hus3 ⊢
 have hiff := Lib.hid (mayS_iff (S := S))
 have hall := Lib.hid (okK_all (S := S))
 have hin := Lib.hid (inT_iff (t := S.t) (r := r))
 rw [hNf0, hNr0] at hiff hall
 rw [hNt0] at hin ht
 have hcl : Hid (clearS S r = (inT S.t r && decide (whereV S.rows r < 0))) := Lib.hid rfl
 have hno : Hid (¬ ((1 ≤ Nf ∧ Nf ≤ 4) ∧ Nr = Nf) → (mayS S && clearS S r) = false) := Lib.hid (fun h => by
  cases hm : mayS S
  · rfl
  · exact absurd ⟨(hiff.out.1 hm).1, (hiff.out.1 hm).2.1⟩ h)
 have hnoT : Hid (inT S.t r = false → (mayS S && clearS S r) = false) := Lib.hid (fun h => by rw [hcl.out, h]; simp)
 have hF' := Lib.hid hF
 have hT' := Lib.hid hT
 have hlen' := Lib.hid hlen
 have hnum' := Lib.hid hnum
 have hNf := Lib.hid hNf0
 have hNr := Lib.hid hNr0
 have hu1 := Lib.hid hus1
 have hu2 := Lib.hid hus2
 have hu3 := Lib.hid hus3
 obtain ⟨w1, hw1⟩ : ∃ w1, (w.alloc (.cells #[.slice xt Nt ct] 37)).alloc (.cells #[.bool false] 4) = w1 := ⟨_, rfl⟩
 have hs1 : w1.heap.size = q + 2 := by rw [← hw1]; simp [hq]
 have kt : At w1 q 37 #[.slice xt Nt ct] := by rw [← hw1]; exact (At.new_ _ _ _ hq.symm).alloc _
 have kr : At w1 (q + 1) 4 #[.bool false] := by rw [← hw1]; exact At.new_ _ _ _ (by simp [hq])
 have hb1 : Below q w w1 := by rw [← hw1]; exact ((Below.refl _ _).alloc (by omega) _).alloc (by simp; omega) _
 have t0 := kt.cell 0
 have r0 := kr.cell 0
 have rf := kr.free 0
 simp at t0 r0
 have hqq : q < w1.heap.size := by omega
 have hq1 : q + 1 < w1.heap.size := by omega
 have kt' := Lib.hid kt
 have kr' := Lib.hid kr
 have hb1' := Lib.hid hb1
 have hw1' := Lib.hid hw1
 have hq' := Lib.hid hq
 have hs1' := Lib.hid hs1
 have hfin : Hid (Below q w (w1.setCell ⟨q + 1, 0, none⟩ (.bool false)) ∧ (w1.setCell ⟨q + 1, 0, none⟩ (.bool false)).cell? ⟨q + 1, 0, none⟩ = some (.bool false)) := Lib.hid ⟨hb1.setCell (by simp) _, by
  have := (kr.put 0 (.bool false)).cell 0
  simpa using this⟩
 clear hF hR hT hlen hnum hNf0 hNr0 hNt0 hus1 hus2 hus3 kt kr hb1 hw1 hq hs1
 refine (callsIn_wide (n := 3)).1 ?_
 refine callsIn_of_wp_marks Tryz.func38 rfl trivial ?_ rfl
 simp only [Tryz.ntmps38, List.size_toArray, List.length_cons, List.length_nil, Nat.reduceAdd, Nat.reduceSub, Array.replicate_succ, Array.replicate_zero, List.push_toArray, List.append_toArray, List.nil_append, List.cons_append]
 gi_upto_region 1 with fail
 try simp only [hq'.out]
 rw [hw1'.out]
 by_cases h1 : (Nf : Int) < 1
 · have he := Lib.hid (hno.out (by omega))
   gi_wp2
   have hc := hfin.out.2
   refine ⟨.bool false, by simp [results, Tryz.results38, go_sem, hc], by rw [he.out], hfin.out.1⟩
 by_cases h2 : (4 : Int) < (Nf : Int)
 · have he := Lib.hid (hno.out (by omega))
   gi_wp2
   have hc := hfin.out.2
   refine ⟨.bool false, by simp [results, Tryz.results38, go_sem, hc], by rw [he.out], hfin.out.1⟩
 cases h3 : ((Nr : Int) != (Nf : Int))
 rotate_left
 · have he := Lib.hid (hno.out (fun h => by rw [h.2] at h3; simp at h3))
   gi_wp2
   have hc := hfin.out.2
   refine ⟨.bool false, by simp [results, Tryz.results38, go_sem, hc], by rw [he.out], hfin.out.1⟩
 have h3' : Nr = Nf := by
  have : (Nr : Int) = (Nf : Int) := by simpa using h3
  omega
 subst h3'
 by_cases h4 : r < 0
 · have he := Lib.hid (hnoT.out (by cases hb : inT S.t r; rfl; have := hin.out.1 hb; omega))
   gi_wp2
   have hc := hfin.out.2
   refine ⟨.bool false, by simp [results, Tryz.results38, go_sem, hc], by rw [he.out], hfin.out.1⟩
 by_cases h5 : (Nt : Int) ≤ r
 · have he := Lib.hid (hnoT.out (by cases hb : inT S.t r; rfl; have := hin.out.1 hb; omega))
   gi_wp2
   have hc := hfin.out.2
   refine ⟨.bool false, by simp [results, Tryz.results38, go_sem, hc], by rw [he.out], hfin.out.1⟩
 have hinT : Hid (inT S.t r = true) := Lib.hid (hin.out.2 ⟨by omega, by omega⟩)
 have hrI : Hid (I64 r) := Lib.hid ⟨by omega, by omega⟩
 have hN4 : Nr ≤ 4 := by omega
 have hN1 : 1 ≤ Nr := by omega
 clear hfin hno hnoT r0 rf
 obtain ⟨w2, hw2⟩ : ∃ w2, (w1.alloc (.map #[] 0)).alloc (.cells #[.map (some (q + 2))] 76) = w2 := ⟨_, rfl⟩
 have hs2 : w2.heap.size = q + 4 := by rw [← hw2]; simp [hs1'.out]
 have km : MapAt w2 (q + 2) 0 (byF S.rows 0 []) := by
  rw [← hw2, ← hs1'.out]
  exact ((MapAt.made w1).alloc _).funs (fun r => byF_zero _ _)
 have ko : At w2 (q + 3) 76 #[.map (some (q + 2))] := by rw [← hw2]; exact At.new_ _ _ _ (by simp [hs1'.out])
 have kt2 : At w2 q 37 #[.slice xt Nt ct] := by rw [← hw2]; exact (kt'.out.alloc _).alloc _
 have kr2 : At w2 (q + 1) 4 #[.bool false] := by rw [← hw2]; exact (kr'.out.alloc _).alloc _
 have hb2 : Below q w w2 := by rw [← hw2]; exact (hb1'.out.alloc (by rw [hs1'.out]; omega) _).alloc (by simp [hs1'.out]; omega) _
 have hmm := @run_makeMap Tryz.prog
 have hI2 := Lib.hid (And.intro km (And.intro ko (And.intro kt2 (And.intro kr2 hb2))))
 have hw2' := Lib.hid hw2
 have hs2' := Lib.hid hs2
 clear hw2 km ko kt2 kr2 hb2 hs2
 gi_upto_region 4 with fail
 try simp only [hs1'.out]
 rw [hw2'.out]
 clear hmm t0
 have hTo := tours_any xf xr Nr cf Nr cr w2
 rw [hs2'.out] at hTo
 gi_wp2_with fail
 refine ⟨trivial, (callsIn_wide.2 hTo).mono ?_⟩
 clear hTo
 rintro e w3 ⟨rfl, hw3⟩
 have hI3 : AskI S w q (.slice xt Nt ct) (.slice xf Nr cf) (.slice xr Nr cr) [] w3 := by
  obtain ⟨km, ko, kt2, kr2, hb2⟩ := hI2.out
  rw [← hw3]
  exact ⟨⟨(kt2.alloc _).alloc _, (kr2.alloc _).alloc _, (ko.alloc _).alloc _, (At.new_ _ _ _ hs2'.out.symm).alloc _, At.new_ _ _ _ (by simp [hs2'.out]), (hb2.alloc (by rw [hs2'.out]; omega) _).alloc (by simp [hs2'.out]; omega) _⟩, fun _ => ⟨(km.alloc _).alloc _, okK_zero _⟩⟩
 have hs3 : w3.heap.size = q + 6 := by rw [← hw3]; simp [hs2'.out]
 have hs3' := Lib.hid hs3
 have hsl : ∀ u ∈ us, ∃ x n c, u = .slice x n c := fun u hu => by
  obtain ⟨i, hi, rfl⟩ := List.getElem_of_mem hu
  have hi2 : i < S.rows.length := by rw [← hu1.out]; exact hi
  obtain ⟨x, n, c, e, -⟩ := (hu3.out i _ (S.rows[i]'hi2) (List.getElem?_eq_getElem hi) (List.getElem?_eq_getElem hi2)).opened
  exact ⟨x, n, c, e⟩
 have hlu : us.length = S.vs.length := by rw [hu1.out, hNr.out, hNf.out]
 clear hw3 hI2 hs3
 gi_wp2_with fail
 refine rangesRound2 (gf := 59) (fst := #[]) (lb := #[.pointer (some ⟨q + 4, 0, none⟩), .pointer (some ⟨q + 5, 0, none⟩)]) rfl (enters_of Tryz.func59 (by kernel_rfl) rfl) (encs := encT) (good := goodA S) (xs := toursL 0 S.vs us) (fun _ => rfl)
  (AskI S w q (.slice xt Nt ct) (.slice xf Nr cf) (.slice xr Nr cr)) (by rw [hs3'.out]; exact AskI.old) hI3
  (tours_runs S.vs us hlu hsl (.slice xf Nr cf) (.slice xr Nr cr) (q + 4) (q + 5) q _ (by rw [hs3'.out]; omega) (goodA S) (AskI S w q (.slice xt Nt ct) (.slice xf Nr cf) (.slice xr Nr cr)) (fun _ A hA => ⟨hA.m.hf, hA.m.hr, hF'.out.keep hA.m.below (Nat.le_refl _), hu2.out.keep hA.m.below (Nat.le_refl _)⟩)) ?round ?done ?stop
 case round =>
  rintro l2 pre x Wr ⟨rest, hx⟩ hW2 hIr hgood
  obtain ⟨hx1, hx2, hx3⟩ := toursL_at hx
  obtain ⟨K, v, u⟩ := x
  simp only [Nat.zero_add] at hx1 hx2 hx3
  have hKN : K < Nr := by have := (List.getElem?_eq_some_iff.1 hx2).1; rw [hNf.out] at this; omega
  have hrl : S.rows[K]? = some (S.rows[K]'(by rw [hNr.out]; exact hKN)) := List.getElem?_eq_getElem _
  obtain ⟨l, hl⟩ : ∃ l, S.rows[K]? = some l := ⟨_, hrl⟩
  rw [← hx1] at hx2 hx3
  have hl100 := hlen'.out l (List.mem_of_getElem? hl)
  have hnl := Lib.hid (hnum'.out l (List.mem_of_getElem? hl))
  have hrow0 := Lib.hid (hu3.out K u l hx3 hl)
  obtain ⟨xu, Nu, cu, rfl, hNu, -⟩ := hrow0.out.opened
  have hv' := Lib.hid hx2
  have hl' := Lib.hid hl
  have hgA := Lib.hid (goodA_at (v' := v) (u := .slice xu Nu cu) hx2 hl)
  have hpl : Hid (pre.length = K) := Lib.hid hx1.symm
  have hgood' := Lib.hid hgood
  clear hrl hx hx1 hx2 hx3 hl hgood hI3 hsl hIr
  dsimp only [encT]
  gi_wp2
  refine ⟨World.grownBy_alloc _ _ _, fun Vr hVs hVb hI2 => ?_⟩
  obtain ⟨z, hz⟩ : ∃ z, Wr.heap.size = z := ⟨_, rfl⟩
  have hzq : q + 8 ≤ z := by have := hs3'.out; omega
  have hX : At Vr z 111 #[.int .i64 v.hx, .int .i64 v.hy, .int .i64 v.cp, .int .i64 v.st, .int .i64 v.en, .slice xu Nu cu] := by
   rw [← hz]; exact (hVb _ (by have := hs3'.out; omega)).trans (At.new Wr _ _)
  have hVq : q ≤ Vr.heap.size := by have := hX.inside; omega
  have hrowV := (hrow0.out.keep hI2.m.below (Nat.le_refl _)).more hVq
  have hTV := (hT'.out.keep hI2.m.below (Nat.le_refl _)).more hVq
  have hC := Check_any v (.slice xu Nu cu) (.slice xt Nt ct) l S.t (by omega) hnl.out Vr hrowV hTV
  have x0 := hX.cell 0
  have x1 := hX.cell 1
  have x2 := hX.cell 2
  have x3 := hX.cell 3
  have x4 := hX.cell 4
  have x5 := hX.cell 5
  have t0 := hI2.m.ht.cell 0
  simp at x0 x1 x2 x3 x4 x5 t0
  have hzi := hX.inside
  have hI2' := Lib.hid hI2
  have hHV : q + 7 < Vr.heap.size := by omega
  try simp only [hz]
  have hX' := Lib.hid hX
  clear hVs hVb hI2 hX hrowV hTV hz
  gi_wp2_with fail
  refine ⟨trivial, (callsIn_wide.2 hC).mono ?_⟩
  clear hC x0 x1 x2 x3 x4 x5 t0
  rintro e w4 ⟨⟨u4, rfl, hu4⟩, hb4⟩
  have hM4 := hI2'.out.m.on hb4
  have hH4 := Lib.hid (held_below (n := q + 6) hb4 hHV)
  have hX4 := hX'.out.keep hb4 hzi
  have hg4 := Lib.hid (fun h => (hI2'.out.good h).1.same (hb4.block (q + 2) (by omega)))
  have hM4' := Lib.hid hM4
  have x5 := hX4.cell 5
  have r0 := hM4.res.cell 0
  have rf := hM4.res.free 0
  simp at x5 r0
  have hzi4 := hX4.inside
  have hq4 := hM4.inside
  by_cases hf : (faultV v l S.t).1 = 0
  case neg =>
   obtain ⟨q4, rfl⟩ := check_not hu4 hf
   have hgf : Hid (goodA S (K, v, .slice xu Nu cu) = false) := Lib.hid (by rw [hgA.out]; unfold okF; rw [decide_eq_false hf]; rfl)
   clear hu4 hf hM4 hb4 hX4
   gi_wp2
   refine ⟨hgf.out, ⟨hM4'.out.no, fun hh => ?_⟩, ?_⟩
   · have := hh (K, v, .slice xu Nu cu) (by simp)
     rw [hgf.out] at this
     cases this
   · rw [hs3'.out]
     exact hH4.out.trans (Held.setCell _ (by omega) (by omega) _)
  case pos =>
  obtain rfl := check_none hu4 hf
  have hokF : Hid (okF v l S.t = true) := Lib.hid (by unfold okF; rw [hf]; rfl)
  have hm4 := hg4.out hgood'.out
  rw [hpl.out] at hm4
  clear hu4 hf hM4 hb4 hX4
  gi_wp2
  gi_loopw [59] (fun i wr => ∃ m : Nat, m ≤ Nu ∧ i = .int .i64 m ∧ AskM w q (.slice xt Nt ct) (.slice xf Nr cf) (.slice xr Nr cr) wr ∧ MapAt wr (q + 2) (100 * K + m) (byF S.rows K (l.take m)) ∧ Hid (∀ s ∈ l.take m, whereV (S.rows.take K) s.1 < 0) ∧ Hid (Held (q + 6) Vr wr))
   (fun i _ => Nu - (intOf i).toNat)
  case atStart => exact ⟨0, Nat.zero_le _, rfl, hM4'.out, by simpa using hm4, Lib.hid (by simp), hH4⟩
  case round =>
   obtain ⟨m, hm, rfl, hM, hmap, hof, hH⟩ := hrel
   clear x5 r0 rf hm4 hzi4 hq4
   have hMi := hM.inside
   by_cases hlt : m < Nu
   · obtain ⟨⟨s1, s2⟩, hs⟩ : ∃ s, l[m]? = some s := ⟨l[m]'(by rw [hNu.out]; exact hlt), List.getElem?_eq_getElem _⟩
     have htake : l.take (m + 1) = l.take m ++ [(s1, s2)] := by rw [List.take_add_one, hs]; rfl
     have htk := Lib.hid htake
     obtain ⟨g, o, rfl, hg, e1, e2⟩ := Row.stop (hrow0.out.keep hM.below (Nat.le_refl _)) hs
     have hI := (hnl.out _ (List.mem_of_getElem? hs)).1
     simp only at hI e1 e2
     have hkey := key_lit hI
     have hmap1 := hmap.alloc (.cells #[.int .i64 s1, .int .i64 s2] 82)
     have hM1 := hM.on ((Below.refl _ wr).alloc (Nat.le_refl _) (.cells #[.int .i64 s1, .int .i64 s2] 82))
     have hS := At.new wr 82 #[.int .i64 s1, .int .i64 s2]
     have hH1 := hH.out.trans (Held.alloc wr (.cells #[.int .i64 s1, .int .i64 s2] 82) (by have := hH.out.size; omega))
     have hmi : (m : Int) < (Nu : Int) := by omega
     have hmN := Lib.hid hlt
     have hsl := Lib.hid hs
     have hoff' := hof
     have hgq : g < wr.heap.size := by omega
     clear hmap hM hH htake hs hlt
     gi_upto_region 12 with fail
     obtain ⟨y, hy⟩ : ∃ y, wr.heap.size = y := ⟨_, rfl⟩
     rw [hy] at hS ⊢
     generalize (wr.alloc (.cells #[.int .i64 s1, .int .i64 s2] 82)) = w5 at *
     have a0 := hS.cell 0
     simp at a0
     have o0 := hM1.own.cell 0
     have r0 := hM1.res.cell 0
     have rf := hM1.res.free 0
     simp at o0 r0
     have hyi := hS.inside
     have h5i := hM1.inside
     obtain ⟨D, hown, hD2⟩ := hmap1
     have hDD := Lib.hid hD2
     obtain ⟨hd1, hd2⟩ := hD2 s1
     have hM1' := Lib.hid hM1
     have hH1' := Lib.hid hH1
     have hm100 : m ≤ 100 := by have := hNu.out; omega
     have hkw : 100 * K + m ≤ 500 := by omega
     have h5s : q + 7 < w5.heap.size := by have := hH1.size; omega
     have hfin : Hid ((whereV (S.rows.take K) s1 < 0) → ∀ W, W.ownsMap Tryz.prog 3 (plainElem Tryz.prog 3) (q + 2) (100 * K + m + 1) (D.put (.int .i64 s1) (.lit (.int .i64 (K : Int)))) → w5.grownBy W (some (q + 2)) →
      AskM w q (.slice xt Nt ct) (.slice xf Nr cf) (.slice xr Nr cr) W ∧ MapAt W (q + 2) (100 * K + (m + 1)) (byF S.rows K (l.take (m + 1))) ∧ Hid (∀ s ∈ l.take (m + 1), whereV (S.rows.take K) s.1 < 0) ∧ Hid (Held (q + 6) Vr W)) := Lib.hid (fun hneg W hW hgr => by
      refine ⟨hM1'.out.wrote hgr, ?_, Lib.hid ?_, Lib.hid (hH1'.out.trans (Held.grown hgr (by omega) (fun r e => by cases e; omega)))⟩
      · exact MapAt.funs ⟨_, hW, put_tells hown.isMap hDD.out trivial⟩ (fun q => by rw [htk.out]; exact byF_put S.rows K (l.take m) (s1, s2) q)
      · intro s hs
        rw [htk.out] at hs
        rcases List.mem_append.1 hs with hs | hs
        · exact hoff'.out s hs
        · obtain rfl := List.mem_singleton.1 hs
          exact hneg)
     clear hD2 hM1 hH1 hy hS
     by_cases hA : noR s1 (l.take m) = false
     · rw [byF_in hA] at hd1 hd2
       have h1' : Maps.has D (.int .i64 s1) = true := hd1
       have hc9 := Lib.hid hd2
       have hneg : Hid (whereV (S.rows.take K) s1 < 0) := Lib.hid (by
        obtain ⟨s, hs, rfl⟩ := noR_mem hA
        exact hoff'.out s hs)
       clear hd1 hd2 hA hoff' hof
       gi_wp2_with (first | (gi_at_lookup; refine wpListIn_lookup_own_ok_int _ rfl _ _ 76 rfl 3 3 .i64 (Maps.int_keyed Tryz.underlying3) Tryz.underlying76 Tryz.underlying3 (Tryz.zeroValue3 _) (q + 2) _ D rfl hown _ _ rfl hkey ?_; intro c hat hwc; rw [h1']; obtain rfl : (K : Int) = c := lit_inj (hc9.out.symm.trans hat); clear hat hwc) | (gi_at_mapUpdate; refine wpListIn_mapUpdate_own _ rfl _ _ _ 76 rfl 3 3 (Maps.int_keyed Tryz.underlying3) Tryz.underlying76 _ (q + 2) _ D rfl hown (by unfold maxLen; omega) _ _ _ rfl rfl hkey _ [] (plainElem_int Tryz.underlying3 (show (Lit.int .i64 (K : Int)).wf = true from I64.wf ⟨by omega, by omega⟩)) ?_; intro w6 hown6 hgrow6))
       obtain ⟨f1, f2, f3, f4⟩ := hfin.out hneg.out w6 hown6 hgrow6
       clear hown6 hgrow6 hown hfin a0 o0 r0 rf e1 e2
       go_roundw
       case rel => exact ⟨m + 1, hmN.out, by go_num, f1, f2, f3, f4⟩
       case measure => have := hmN.out; simp [intOf]; omega
     · have hA1 : noR s1 (l.take m) = true := by simpa using hA
       by_cases hB : 0 ≤ whereV (S.rows.take K) s1
       · rw [byF_off hA1 hB] at hd1 hd2
         have h1' : Maps.has D (.int .i64 s1) = true := hd1
         obtain ⟨V, hV⟩ : ∃ V, whereV (S.rows.take K) s1 = V := ⟨_, rfl⟩
         rw [hV] at hd2
         have hc9 := Lib.hid hd2
         have hbd := (where_bd (S.rows.take K) s1).2
         rw [List.length_take, hV] at hbd
         have hne : (V != (K : Int)) = true := by simp; omega
         have hgf : Hid (goodA S (K, v, .slice (some ⟨g, o, none⟩) Nu cu) = false) := Lib.hid (by
          rw [hgA.out, hokF.out, Bool.true_and]
          cases ho : offB l (S.rows.take K)
          · rfl
          · have := off_where.1 ho _ (List.mem_of_getElem? hsl.out)
            simp only at this
            omega)
         clear hd1 hd2 hA hA1 hoff' hof hfin hV hbd hB
         gi_wp2_with (gi_at_lookup; refine wpListIn_lookup_own_ok_int _ rfl _ _ 76 rfl 3 3 .i64 (Maps.int_keyed Tryz.underlying3) Tryz.underlying76 Tryz.underlying3 (Tryz.zeroValue3 _) (q + 2) _ D rfl hown _ _ rfl hkey ?_; intro c hat hwc; rw [h1']; obtain rfl : V = c := lit_inj (hc9.out.symm.trans hat); clear hat hwc)
         refine ⟨hgf.out, ⟨hM1'.out.no, fun hh => ?_⟩, ?_⟩
         · have := hh (K, v, .slice (some ⟨g, o, none⟩) Nu cu) (by simp)
           rw [hgf.out] at this
           cases this
         · rw [hs3'.out]
           exact hH1'.out.trans (Held.setCell _ (by omega) (by omega) _)
       · rw [byF_no hA1 hB] at hd1 hd2
         have h1' : Maps.has D (.int .i64 s1) = false := hd1
         have hneg : Hid (whereV (S.rows.take K) s1 < 0) := Lib.hid (by omega)
         clear hd1 hd2 hA hA1 hoff' hof hB
         gi_wp2_with (first | (gi_at_lookup; refine wpListIn_lookup_own_ok_int _ rfl _ _ 76 rfl 3 3 .i64 (Maps.int_keyed Tryz.underlying3) Tryz.underlying76 Tryz.underlying3 (Tryz.zeroValue3 _) (q + 2) _ D rfl hown _ _ rfl hkey ?_; intro c hat hwc; rw [h1']; clear hat hwc) | (gi_at_mapUpdate; refine wpListIn_mapUpdate_own _ rfl _ _ _ 76 rfl 3 3 (Maps.int_keyed Tryz.underlying3) Tryz.underlying76 _ (q + 2) _ D rfl hown (by unfold maxLen; omega) _ _ _ rfl rfl hkey _ [] (plainElem_int Tryz.underlying3 (show (Lit.int .i64 (K : Int)).wf = true from I64.wf ⟨by omega, by omega⟩)) ?_; intro w6 hown6 hgrow6))
         obtain ⟨f1, f2, f3, f4⟩ := hfin.out hneg.out w6 hown6 hgrow6
         clear hown6 hgrow6 hown hfin a0 o0 r0 rf e1 e2
         go_roundw
         case rel => exact ⟨m + 1, hmN.out, by go_num, f1, f2, f3, f4⟩
         case measure => have := hmN.out; simp [intOf]; omega
   · obtain rfl : m = Nu := by omega
     have htl : l.take m = l := List.take_of_length_le (by rw [hNu.out]; exact Nat.le_refl _)
     rw [htl] at hmap hof
     have hgt : Hid (goodA S (K, v, .slice xu m cu) = true) := Lib.hid (by rw [hgA.out, hokF.out, Bool.true_and]; exact off_where.2 hof.out)
     have hfin : Hid (AskI S w q (.slice xt Nt ct) (.slice xf Nr cf) (.slice xr Nr cr) (pre ++ [(K, v, .slice xu m cu)]) wr ∧ Held w3.heap.size Vr wr) := Lib.hid ⟨⟨hM, fun hh => by
      rw [List.length_append, hpl.out]
      exact ⟨((hmap.funs (fun r => byF_row hl'.out hof.out r)).more (by have := hNu.out; simp; omega)), okK_next (by have := (hI2'.out.good hgood'.out).2; rw [hpl.out] at this; exact this) hv'.out hl'.out hokF.out (off_where.2 hof.out)⟩⟩, by rw [hs3'.out]; exact hH.out⟩
     clear hM hmap hof hH htl
     gi_wp2
     exact ⟨hgt.out, hfin.out.1, hfin.out.2⟩
 case done =>
  rintro Wr hW2 hI2 hall2 hD
  obtain ⟨hm, hg⟩ := hI2
  obtain ⟨hmap, hok⟩ := hg hall2
  have hxl : (toursL 0 S.vs us).length = S.vs.length := toursL_length hlu
  rw [hxl] at hmap hok
  have hmay := Lib.hid (hall.out (by rw [hNf.out] at hok; exact hok) ⟨hN1, hN4⟩ (by simp))
  have hrl : S.vs.length = S.rows.length := by rw [hNf.out, hNr.out]
  rw [hrl] at hmap
  have o0 := hm.own.cell 0
  have rf := hm.res.free 0
  have r0 := hm.res.cell 0
  simp at o0 r0
  have hkey := key_lit hrI.out
  have hin := hm.inside
  obtain ⟨D, hown, hD2⟩ := hmap
  obtain ⟨hd1, hd2⟩ := hD2 r
  have hm' := Lib.hid hm
  have hN : 100 * S.rows.length ≤ 400 := by rw [hNr.out]; omega
  have hby : Hid (Maps.has D (.int .i64 r) = decide (0 ≤ whereV S.rows r)) := Lib.hid (by
   rw [hd1]
   by_cases h9 : 0 ≤ whereV S.rows r
   · rw [byF_off (by simp [noR]) (by rw [List.take_of_length_le (Nat.le_refl _)]; exact h9)]; simp [h9]
   · rw [byF_no (by simp [noR]) (by rw [List.take_of_length_le (Nat.le_refl _)]; exact h9)]; simp [h9])
  have hfin : Hid (∀ b, b = decide (0 ≤ whereV S.rows r) → (mayS S && clearS S r) = !b) := Lib.hid (fun b hb => by
   rw [hcl.out, hmay.out, hinT.out, hb]
   by_cases h9 : 0 ≤ whereV S.rows r
   · simp [h9]
   · simp [h9]; omega)
  clear hd1 hd2 hD2 hm hI3
  by_cases h9 : 0 ≤ whereV S.rows r
  · have h1' : Maps.has D (.int .i64 r) = true := by rw [hby.out]; simp [h9]
    have hf9 := Lib.hid (hfin.out true (by simp [h9]))
    gi_wp2_with (gi_at_lookup; refine wpListIn_lookup_own_ok_int _ rfl _ _ 76 rfl 3 3 .i64 (Maps.int_keyed Tryz.underlying3) Tryz.underlying76 Tryz.underlying3 (Tryz.zeroValue3 _) (q + 2) _ D rfl hown _ _ rfl hkey ?_; intro c hat hwc; rw [h1']; clear hat hwc)
    have hD2 : (Wr.setCell ⟨q + 1, 0, none⟩ (.bool false)).heap[w3.heap.size]? = some (.deferred (some [])) := (Below.heap_setCell _ _ _ _ (by show w3.heap.size ≠ q + 1; have := hs3'.out; omega)).trans hD
    have hr3 : At (Wr.setCell ⟨q + 1, 0, none⟩ (.bool false)) (q + 1) 4 #[.bool false] := by simpa using hm'.out.res.put 0 (.bool false)
    have hr2 : At ((Wr.setCell ⟨q + 1, 0, none⟩ (.bool false)).putObj w3.heap.size (.deferred none)) (q + 1) 4 #[.bool false] := (World.putObj_heap_other (by have := hs3'.out; omega)).trans hr3
    have hb2 : Below q w ((Wr.setCell ⟨q + 1, 0, none⟩ (.bool false)).putObj w3.heap.size (.deferred none)) := (hm'.out.below.setCell (by simp) _).trans (below_put (by have := hs3'.out; omega) hD2)
    have hc2 := hr2.cell 0
    simp at hc2
    refine ⟨by simp, .inl ⟨_, _, rfl, run_takeDeferred hD2, ?_⟩⟩
    exact ⟨.bool false, by simp [results, Tryz.results38, go_sem, hc2], by rw [hf9.out]; rfl, hb2⟩
  · have h1' : Maps.has D (.int .i64 r) = false := by rw [hby.out]; simp [h9]
    have hf9 := Lib.hid (hfin.out false (by simp [h9]))
    gi_wp2_with (gi_at_lookup; refine wpListIn_lookup_own_ok_int _ rfl _ _ 76 rfl 3 3 .i64 (Maps.int_keyed Tryz.underlying3) Tryz.underlying76 Tryz.underlying3 (Tryz.zeroValue3 _) (q + 2) _ D rfl hown _ _ rfl hkey ?_; intro c hat hwc; rw [h1']; clear hat hwc)
    have hD2 : (Wr.setCell ⟨q + 1, 0, none⟩ (.bool true)).heap[w3.heap.size]? = some (.deferred (some [])) := (Below.heap_setCell _ _ _ _ (by show w3.heap.size ≠ q + 1; have := hs3'.out; omega)).trans hD
    have hr3 : At (Wr.setCell ⟨q + 1, 0, none⟩ (.bool true)) (q + 1) 4 #[.bool true] := by simpa using hm'.out.res.put 0 (.bool true)
    have hr2 : At ((Wr.setCell ⟨q + 1, 0, none⟩ (.bool true)).putObj w3.heap.size (.deferred none)) (q + 1) 4 #[.bool true] := (World.putObj_heap_other (by have := hs3'.out; omega)).trans hr3
    have hb2 : Below q w ((Wr.setCell ⟨q + 1, 0, none⟩ (.bool true)).putObj w3.heap.size (.deferred none)) := (hm'.out.below.setCell (by simp) _).trans (below_put (by have := hs3'.out; omega) hD2)
    have hc2 := hr2.cell 0
    simp at hc2
    refine ⟨by simp, .inl ⟨_, _, rfl, run_takeDeferred hD2, ?_⟩⟩
    exact ⟨.bool true, by simp [results, Tryz.results38, go_sem, hc2], by rw [hf9.out]; rfl, hb2⟩
 case stop =>
  rintro Wr hW2 hI2 hbad hD
  have hm := hI2.m
  have hno : Hid ((mayS S && clearS S r) = false) := Lib.hid (by
   cases h : mayS S
   · rfl
   · exact absurd (good_all h hlu) hbad)
  have hin := hm.inside
  have hr2 : At (Wr.putObj w3.heap.size (.deferred none)) (q + 1) 4 #[.bool false] := (World.putObj_heap_other (by have := hs3'.out; omega)).trans hm.res
  have hb2 : Below q w (Wr.putObj w3.heap.size (.deferred none)) := hm.below.trans (below_put (by have := hs3'.out; omega) hD)
  have hc2 := hr2.cell 0
  simp at hc2
  gi_wp2
  refine ⟨by simp, .inl ⟨_, _, rfl, run_takeDeferred hD, ?_⟩⟩
  exact ⟨.bool false, by simp [results, Tryz.results38, go_sem, hc2], by rw [hno.out], hb2⟩
end Go.Proofs.YteclpblfleakhaaGreatDoor.Price

/-
  The contract of package load's Open.
-/
import Derived.Test.YtphfjaelglafnaaDoorLoadKeys
import Derived.Test.YtphfjaelglafnaaDoorRoutePairs
namespace Go.Proofs.YtphfjaelglafnaaDoor.Load
open Go.RowKit Go.Maps Go.Sort Go.Shelf Go.Proofs.YtphfjaelglafnaaDoor.Mem Go.Proofs.YtphfjaelglafnaaDoor.Route
set_option linter.unusedVariables false

theorem opB_pick {l : List (Int × Int)} {k : Nat} {s : Int × Int} (h : l[k]? = some s) (e : s.2 = 0) (r : Int) : opB (l.take (k + 1)) r = (fun q => if s.1 = q then true else opB (l.take k) q) r := by
  rw [Load.take_get h, opB_snoc]; simp [opS, e]
theorem opB_drop {l : List (Int × Int)} {k : Nat} {s : Int × Int} (h : l[k]? = some s) (e : s.2 = 1) (r : Int) : opB (l.take (k + 1)) r = (fun q => if s.1 = q then false else opB (l.take k) q) r := by
  rw [Load.take_get h, opB_snoc]; simp [opS, e]
theorem opB_odd {l : List (Int × Int)} {k : Nat} {s : Int × Int} (h : l[k]? = some s) (e0 : s.2 ≠ 0) (e1 : s.2 ≠ 1) (r : Int) : opB (l.take (k + 1)) r = opB (l.take k) r := by
  rw [Load.take_get h, opB_snoc]; simp [opS, e0, e1]

set_option maxRecDepth 100000 in
set_option maxHeartbeats 4000000 in
theorem Open_any (v : Value) (l : List (Int × Int)) (hl : l.length ≤ 1000000) (hnum : Nums l) (k0 : Int) (w : World) (h : Row w.heap.size w v l) :
    Calls Tryd.prog 15 #[v, .int .i64 k0] w fun e w' => (∃ v', e = .returned v' ∧ Ints w'.heap.size w' v' (opAt l k0) ∧ New w.heap.size v') ∧ Below w.heap.size w w' := by
  obtain ⟨x, N, cap, rfl, hN', h0', hc1, hc2⟩ := h.opened
  obtain ⟨K, hK⟩ : ∃ K, kN l k0 = K := ⟨_, rfl⟩
  have hK1 : min (max k0 0) (N : Int) = (K : Int) := by rw [← hK]; unfold kN; rw [hN'.out]; omega
  have hKN : K ≤ N := by omega
  have hfin : Hid (opL (l.take K) = opAt l k0) := Lib.hid (by unfold opAt; rw [hK])
  have h' := Lib.hid h
  have hnum' := Lib.hid hnum
  rw [hN'.out] at hl
  clear h hnum hK
  have hmm := @run_makeMap Tryd.prog
  have hM0 : SetAt (w.alloc (.map #[] 0)) w.heap.size 0 (opB (l.take 0)) := (SetAt.made w).funs (fun r => by rw [List.take_zero]; rfl)
  have hb0 : Below w.heap.size w (w.alloc (.map #[] 0)) := (Below.refl _ _).alloc (Nat.le_refl _) _
  obtain ⟨b, hb1, hb2⟩ : ∃ b, w.heap.size ≤ b ∧ b ≤ w.heap.size := ⟨_, Nat.le_refl _, Nat.le_refl _⟩
  have hbe := Lib.hid (show w.heap.size = b by omega)
  go_enter Tryd.func15, Tryd.ntmps15
  rw [hbe.out] at hM0
  go_upto_region 2 with fail
  simp only [hbe.out]
  generalize (w.alloc (.map #[] 0)) = w1 at *
  have hw1 := hb0.size
  go_wp2
  go_loopw [17] (fun i wr => ∃ k : Nat, k ≤ K ∧ i = .int .i64 k ∧ SetAt wr b k (opB (l.take k)) ∧ Below w.heap.size w wr)
    (fun i _ => K - (intOf i).toNat)
  case atStart => exact ⟨0, by omega, rfl, hM0, hb0⟩
  case round =>
    obtain ⟨k, hk, rfl, hmap, hbw⟩ := hrel
    clear hM0 hb0
    have hsz := hbw.size
    have hbi := hmap.inside
    by_cases hlt : k < K
    · obtain ⟨⟨s1, s2⟩, hs, _⟩ := drop_get (l := l) (k := k) (by rw [hN'.out]; omega)
      obtain ⟨g, o, rfl, hg, e1, e2⟩ := Row.stop h'.out hs
      have e1 := (hbw.cell (p := ⟨g, o + k * 2, none⟩) hg).trans e1
      have e2 := (hbw.cell (p := ⟨g, o + k * 2 + 1, none⟩) hg).trans e2
      simp at e1 e2
      have hI := (hnum'.out _ (List.mem_of_getElem? hs)).1
      have hkey := key_lit hI
      simp only at hkey
      have hop := Lib.hid (opB_pick hs)
      have hod := Lib.hid (opB_drop hs)
      have hoo := Lib.hid (opB_odd hs)
      have hm1 := hmap.alloc (.cells #[.int .i64 s1, .int .i64 s2] 58)
      have hB1 := hbw.alloc hbw.size (.cells #[.int .i64 s1, .int .i64 s2] 58)
      have hS := At.new wr 58 #[.int .i64 s1, .int .i64 s2]
      clear hs hmap hbw
      go_upto_region 5 with fail
      obtain ⟨q, hq⟩ : ∃ q, wr.heap.size = q := ⟨_, rfl⟩
      rw [hq] at hS ⊢
      generalize (wr.alloc (.cells #[.int .i64 s1, .int .i64 s2] 58)) = w2 at *
      have hqi := hS.inside
      have a0 := hS.cell 0
      have a1 := hS.cell 1
      simp at a0 a1
      have hbi2 := hm1.inside
      clear e1 e2 hq hmm hS
      cases c6 : (s2 == 0)
      case true =>
        have hp := Lib.hid (hop.out (by simpa using c6))
        obtain ⟨D, hom, hD⟩ := hm1
        have hD' := Lib.hid hD
        clear hD hop hod hoo
        go_wp2_with (at_mapUpdate; refine wpList_mapUpdate_own _ rfl _ _ _ 70 rfl 3 71 (Maps.int_keyed Tryd.underlying3) Tryd.underlying70 noneR b k D rfl hom (by unfold maxLen; omega) _ _ _ rfl rfl hkey _ [] (show noneR _ = some (.agg [], []) from rfl) ?_; intro w8 hom8 hgrow8)
        have hm8 : SetAt w8 b (k + 1) (opB (l.take (k + 1))) := SetAt.funs ⟨_, hom8, put_set hom.isMap hD'.out trivial _⟩ (fun q => hp.out q)
        have hB8 := hB1.grown hgrow8 (by have := hB1.size; omega) (fun r e => by cases e; exact hb1)
        go_roundw
        case rel => exact ⟨k + 1, by omega, by go_num, hm8, hB8⟩
        case measure => simp [intOf]; omega
      case false =>
      cases c7 : (s2 == 1)
      case true =>
        have hp := Lib.hid (hod.out (by simpa using c7))
        obtain ⟨D, hom, hD⟩ := hm1
        have hD' := Lib.hid hD
        clear hD hop hod hoo
        go_wp2_with (at_delete; refine wpList_delete_own _ rfl _ _ 70 3 rfl 71 (Maps.int_keyed Tryd.underlying3) Tryd.underlying70 noneR b k D rfl hom _ _ rfl hkey ?_; intro w8 hom8 hturn8)
        have hgrow8 := hturn8.grown
        have hm8 : SetAt w8 b (k + 1) (opB (l.take (k + 1))) := SetAt.more (SetAt.funs ⟨_, hom8, del_set hD'.out⟩ (fun q => hp.out q)) (Nat.le_succ _)
        have hB8 := hB1.grown hgrow8 (by have := hB1.size; omega) (fun r e => by cases e; exact hb1)
        clear hturn8
        go_roundw
        case rel => exact ⟨k + 1, by omega, by go_num, hm8, hB8⟩
        case measure => simp [intOf]; omega
      case false =>
        have hp := Lib.hid (hoo.out (by simpa using c6) (by simpa using c7))
        have hm8 : SetAt w2 b (k + 1) (opB (l.take (k + 1))) := SetAt.more (SetAt.funs hm1 (fun q => hp.out q)) (Nat.le_succ _)
        clear hop hod hoo hm1
        go_wp2
        go_roundw
        case rel => exact ⟨k + 1, by omega, by go_num, hm8, hB1⟩
        case measure => simp [intOf]; omega
    · obtain rfl : k = K := by omega
      have hS := Sorted_any b k _ (by omega) (opL (l.take k)) (opL_rise _) (fun r => mem_opL) wr hmap
      clear hmap
      go_wp2_with (first
        | (go_at_call 30; refine (Keys_any _ _).mono ?_; rintro e w' ⟨rfl, rfl⟩)
        | (go_at_call 29; refine hS.mono ?_; rintro e w3 ⟨⟨v3, rfl, hv3, hn3⟩, hb3⟩))
      go_ret
      exact ⟨⟨_, rfl, by rw [← hfin.out]; exact hv3, hn3.more hsz⟩, hbw.trans (hb3.mono hsz)⟩

end Go.Proofs.YtphfjaelglafnaaDoor.Load

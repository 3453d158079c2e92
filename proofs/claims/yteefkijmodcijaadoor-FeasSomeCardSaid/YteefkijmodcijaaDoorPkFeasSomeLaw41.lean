import Derived.Test.YteefkijmodcijaaDoorPkFeasSomeLaw40
import Derived.WalkMore

/-
  The contract of package feas's trip's walk, by whatever pace.
-/
namespace Go.Proofs.YteefkijmodcijaaDoor.Feas
open Go.RowKit Go.Sort Go.Proofs.YteefkijmodcijaaDoor.Mem Go.Proofs.YteefkijmodcijaaDoor.Route Go.Proofs.YteefkijmodcijaaDoor.When Go.Proofs.YteefkijmodcijaaDoor.Load Go.Proofs.YteefkijmodcijaaDoor.Float Go.Proofs.YteefkijmodcijaaDoor.Tail Go.Proofs.YteefkijmodcijaaDoor.Place
set_option linter.unusedVariables false

/-- A trip has come so far: behind these stops, there. -/
structure TripS (v : Vh) (vt kv : Value) (g mb : Nat) (t : List Rq) (pre : List (Int × Int)) (a : Sp) (W : World) : Prop where
  trip : At W g 115 #[.int .i64 v.hx, .int .i64 v.hy, .int .i64 v.cp, .int .i64 v.st, .int .i64 v.en, vt, kv, .map (some mb), .int .i64 (acc t pre), .int .i64 a.px, .int .i64 a.py, .int .i64 a.now]
  fate : FateAt W mb pre.length (fateF pre)
  now : 0 ≤ a.now ∧ a.now ≤ 500000000
  len : pre.length ≤ 16
  acc : -1000 * (pre.length : Int) ≤ acc t pre ∧ acc t pre ≤ 1000 * (pre.length : Int)

/-- The walk has come to the k-th stop. -/
def WalkI (v : Vh) (vt kv : Value) (g mb : Nat) (t : List Rq) (P : Pace) (l : List (Int × Int)) (w : World) (k : Nat) (W : World) : Prop :=
  ∃ a, TripS v vt kv g mb t (l.take k) a W ∧ walkV v t P [] (sp0 v) l = walkV v t P (l.take k) a (l.drop k) ∧ Two g mb w W

theorem walk_step {v : Vh} {t : List Rq} {P : Pace} {l : List (Int × Int)} {k : Nat} {a : Sp} {s : Int × Int} (hs : l[k]? = some s) (hw : walkV v t P [] (sp0 v) l = walkV v t P (l.take k) a (l.drop k)) (h0 : srvV v t P (l.take k) a s = 0) :
    walkV v t P [] (sp0 v) l = walkV v t P (l.take (k + 1)) (goP P (l.take k).length a (visV t s)) (l.drop (k + 1)) := by
  obtain ⟨hlt, hx⟩ := List.getElem?_eq_some_iff.1 hs
  rw [hw, List.drop_eq_getElem_cons hlt, hx, walkV_go h0, Load.take_get hs]
theorem walk_bad {v : Vh} {t : List Rq} {P : Pace} {l : List (Int × Int)} {k : Nat} {a : Sp} {s : Int × Int} (hs : l[k]? = some s) (hw : walkV v t P [] (sp0 v) l = walkV v t P (l.take k) a (l.drop k)) (h0 : srvV v t P (l.take k) a s ≠ 0) :
    walkV v t P [] (sp0 v) l = (srvV v t P (l.take k) a s, k, a) := by
  obtain ⟨hlt, hx⟩ := List.getElem?_eq_some_iff.1 hs
  rw [hw, List.drop_eq_getElem_cons hlt, hx, walkV_stop h0, List.length_take]
  rw [show min k l.length = k by omega]
theorem walk_end {v : Vh} {t : List Rq} {P : Pace} {l : List (Int × Int)} {a : Sp} (hw : walkV v t P [] (sp0 v) l = walkV v t P (l.take l.length) a (l.drop l.length)) : walkV v t P [] (sp0 v) l = (0, l.length, a) := by
  rw [hw, List.drop_length, List.take_length, walkV]
theorem walk_in {v : Vh} {t : List Rq} {P : Pace} (hP : PB P) (hq : ∀ q ∈ t, q.chk = 0) {pre : List (Int × Int)} {a : Sp} {s : Int × Int} (h : srvV v t P pre a s = 0) (hn : 0 ≤ a.now ∧ a.now ≤ 500000000) (hl : pre.length ≤ 16) (ha : -1000 * (pre.length : Int) ≤ acc t pre ∧ acc t pre ≤ 1000 * (pre.length : Int)) :
    (0 ≤ (goP P pre.length a (visV t s)).now ∧ (goP P pre.length a (visV t s)).now ≤ 500000000) ∧ (pre ++ [s]).length ≤ 16 ∧ (-1000 * ((pre ++ [s]).length : Int) ≤ acc t (pre ++ [s]) ∧ acc t (pre ++ [s]) ≤ 1000 * ((pre ++ [s]).length : Int)) := by
  obtain ⟨h1, h2, h3, h4⟩ := srv_bits.1 h
  obtain ⟨x, hx, hv⟩ := stB_vis h2
  rw [hv] at h4 ⊢
  have hd := dist_bd (a.px, a.py) (x.px, x.py)
  have hb := hP pre.length x (arV a x) (vis_ok hq hx) (by unfold arV; omega) h4
  obtain ⟨q, hqq, _⟩ := visO_some hx
  have hl1 := chk_ld hq q (List.mem_of_getElem? hqq)
  refine ⟨⟨hb.1, by have := hb.2; show (P pre.length x (arV a x)).1 ≤ _; omega⟩, by simp; omega, ?_⟩
  rw [acc_snoc]
  simp only [stN]
  rw [ldR_get hqq, List.length_append, List.length_singleton]
  unfold sg
  split <;> omega
theorem TripS.on {v : Vh} {vt kv : Value} {g mb : Nat} {t : List Rq} {pre : List (Int × Int)} {a : Sp} {W W' : World} (h : TripS v vt kv g mb t pre a W) (hb : Below W.heap.size W W') : TripS v vt kv g mb t pre a W' :=
  ⟨h.trip.keep hb h.trip.inside, h.fate.keep hb h.fate.inside, h.now, h.len, h.acc⟩
theorem ret_ei {a b c d : Int} (h : a = b) (h2 : c = d) : Ending.returned (.tuple #[.int .i64 a, .int .i64 c]) = .returned (.tuple #[.int .i64 b, .int .i64 d]) := by rw [h, h2]

set_option maxRecDepth 100000 in
set_option maxHeartbeats 4000000 in
theorem walk_any (v : Vh) (vl vt kv : Value) (g mb B : Nat) (P : Pace) (hPB : PB P) (l : List (Int × Int)) (t : List Rq) (w : World) (hl : l.length ≤ 1000000) (hnum : Nums l) (hq : ∀ q ∈ t, q.chk = 0) (hv : v.chk = 0) (hg : TripS v vt kv g mb t [] (sp0 v) w)
    (hL : Row B w vl l) (hT : Rqs B w vt t) (hB : B ≤ w.heap.size) (hBg : B ≤ g ∧ B ≤ mb) (hP : PassC kv l.length B w P) :
    Calls Tryd.prog 56 #[.pointer (some ⟨g, 0, none⟩), vl] w fun e w' =>
      e = .returned (.tuple #[.int .i64 (walkV v t P [] (sp0 v) l).1, .int .i64 ((walkV v t P [] (sp0 v) l).2.1 : Nat)]) ∧ ((walkV v t P [] (sp0 v) l).1 = 0 → TripS v vt kv g mb t l (walkV v t P [] (sp0 v) l).2.2 w') ∧ Two g mb w w' := by
  obtain ⟨xl, N, cap, rfl, hN, hl0, hlc1, hlc2⟩ := hL.opened
  have hgi := hg.trip.inside
  have hmi := hg.fate.inside
  have hI0 : WalkI v vt kv g mb t P l w 0 w := ⟨sp0 v, by simpa using hg, by simp, .refl _ _ _⟩
  have hN' : Hid (l.length = N) := hN
  rw [hN'.out] at hP hl
  have hP' := Lib.hid hP
  have hL' := Lib.hid hL
  have hT' := Lib.hid hT
  have hq' := Lib.hid hq
  have hnum' := Lib.hid hnum
  have hPB' := Lib.hid hPB
  clear hN hP hL hT hq hnum hPB hg hl0
  go_enter Tryd.func56, Tryd.ntmps56
  go_wp2_with fail
  go_step3
  go_wp2_with fail
  go_step3
  go_wp2
  go_loopw [4, 5, 10] (fun c u i wr => ∃ k : Nat, k ≤ N ∧ c = .int .i64 0 ∧ u = .int .i64 k ∧ i = .int .i64 k ∧ WalkI v vt kv g mb t P l w k wr) (fun _ _ i _ => N - (intOf i).toNat)
  case atStart => exact ⟨0, Nat.zero_le _, rfl, rfl, rfl, hI0⟩
  case round =>
    obtain ⟨k, hk, rfl, rfl, rfl, a, hS, hwv, hTw⟩ := hrel
    clear hI0
    by_cases hlt : k < N
    · obtain ⟨⟨s1, s2⟩, hs⟩ : ∃ s, l[k]? = some s := ⟨l[k]'(by rw [hN'.out]; exact hlt), List.getElem?_eq_getElem _⟩
      have hbw : Below B w wr := hTw.below hBg.1 hBg.2 hB
      obtain ⟨b, o, rfl, hb, c0, c1⟩ := Row.stop (hL'.out.keep hbw (Nat.le_refl _)) hs
      simp only at c0 c1
      have hlen : (l.take k).length = k := by rw [List.length_take, hN'.out]; omega
      obtain ⟨w1, hw1⟩ : ∃ w1, wr.alloc (.cells #[.int .i64 s1, .int .i64 s2] 65) = w1 := ⟨_, rfl⟩
      have hb1 : Below wr.heap.size wr w1 := by rw [← hw1]; exact (Below.refl _ _).alloc (Nat.le_refl _) _
      obtain ⟨m, hmq⟩ : ∃ m, wr.heap.size = m := ⟨_, rfl⟩
      have hX : At w1 m 65 #[.int .i64 s1, .int .i64 s2] := by rw [← hw1]; exact At.new_ _ _ _ hmq.symm
      have hS1 := hS.on hb1
      have hT1 := hTw.on hb1
      have hB1 : B ≤ w1.heap.size := by have := hT1.size; omega
      have hbw1 := hT1.below hBg.1 hBg.2 hB
      have hpre := hS.len
      rw [hlen] at hpre
      have hacc := hS.acc
      rw [hlen] at hacc
      have hsv := serve_any v vt kv g mb (l.take k).length B N P t (l.take k) a s1 s2 w1 (by omega) (by omega) (by omega) (hnum'.out _ (List.mem_of_getElem? hs)).1 (by omega) hq'.out hS.now hS1.trip hS1.fate (hT'.out.keep hbw1 (Nat.le_refl _)) hB1 hBg (hP'.out.on hbw1)
      have hin := Lib.hid (fun h => walk_in (v := v) (s := (s1, s2)) hPB'.out hq'.out h hS.now hS.len hS.acc)
      have hgo := Lib.hid (walk_step hs hwv)
      have hbad := Lib.hid (walk_bad hs hwv)
      have htk := Lib.hid (Load.take_get hs)
      rw [hlen] at hsv
      obtain ⟨E, hE⟩ : ∃ E, srvV v t P (l.take k) a (s1, s2) = E := ⟨_, rfl⟩
      rw [hE] at hsv
      have hE' := Lib.hid hE
      have hlen' := Lib.hid hlen
      have hw1' := Lib.hid hw1
      have hmq' := Lib.hid hmq
      have hX0 := hX.cell 0
      have hX1 := hX.cell 1
      simp at hX0 hX1
      clear hS hwv hTw hbw hb1 hS1 hbw1 hpre hacc hE hlen hw1 hs hX hmq
      go_upto_region 4 with fail
      simp only [hmq'.out]
      rw [hw1'.out]
      go_wp2_with fail
      refine hsv.mono ?_
      clear hsv hX0 hX1 c0 c1
      rintro e w2 ⟨rfl, hyes, hT2⟩
      have hTT := hT1.trans hT2
      cases e0 : (E == 0)
      case true =>
        obtain rfl : E = 0 := by simpa using e0
        obtain ⟨hG2, hM2⟩ := hyes rfl
        obtain ⟨i1, i2, i3⟩ := hin.out hE'.out
        have hR : WalkI v vt kv g mb t P l w (k + 1) w2 := ⟨_, ⟨by rw [htk.out, hlen'.out]; exact hG2, by rw [htk.out, List.length_append, hlen'.out]; exact hM2, i1, by rw [htk.out]; exact i2, by rw [htk.out]; exact i3⟩, hgo.out hE'.out, hTT⟩
        clear hyes hG2 hM2 i1 i2 i3 hin hgo hbad e0
        go_wp2
        go_roundw
        case rel => exact ⟨k + 1, hlt, rfl, by go_num, by go_num, hR⟩
        case measure => simp [intOf]; omega
      case false =>
        have hne : E ≠ 0 := by simpa using e0
        have hF := Lib.hid (hbad.out (by rw [hE'.out]; exact hne))
        clear hyes hin hgo hbad hne
        go_wp2
        simp only [Exit.noGoto_ret]
        refine bodyPost_ret (v := .tuple #[.int .i64 E, .int .i64 k]) (by simp [results, Tryd.results56, go_sem]) rfl ?_
        exact ⟨ret_ei (by rw [hF.out, hE'.out]) (by rw [hF.out]), fun h => (by rw [hF.out, hE'.out] at h; simp at e0; exact absurd h e0), hTT⟩
    · obtain rfl : k = N := by omega
      have hF := Lib.hid (walk_end (by rw [hN'.out]; exact hwv))
      have hS' : TripS v vt kv g mb t l a wr := by rw [← hN'.out, List.take_length] at hS; exact hS
      have hkl := Lib.hid (show ((l.length : Nat) : Int) = k by rw [hN'.out])
      clear hS hwv
      go_wp2
      simp only [Exit.noGoto_ret]
      refine bodyPost_ret (v := .tuple #[.int .i64 0, .int .i64 k]) (by simp [results, Tryd.results56, go_sem]) rfl ?_
      exact ⟨ret_ei (by rw [hF.out]) (by rw [hF.out]; exact hkl.out.symm), fun _ => (by rw [hF.out]; exact hS'), hTw⟩

end Go.Proofs.YteefkijmodcijaaDoor.Feas

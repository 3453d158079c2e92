/-
  Package scene's iterator over requests.
-/
import Derived.Test.YtlkijbakfoabaaaDoorSceneAt
namespace Go.Proofs.YtlkijbakfoabaaaDoor.Scene
open Go.RowKit Go.Shelf Go.Proofs.YtlkijbakfoabaaaDoor.Mem Go.Proofs.YtlkijbakfoabaaaDoor.Up
set_option linter.unusedVariables false

attribute [local go_sem] Oper.semAt_some

def enc2 (x : Int × Int) : Array Value := #[.int .i64 x.1, .int .i64 x.2]

theorem reqsL_drop (k : Nat) (qs : List Rq) (q : Rq) (rest : List Rq) (h : qs = q :: rest) : reqsL k qs = ((k : Int), q.chk) :: reqsL (k + 1) rest := by rw [h]; rfl

theorem reqCheck (q : Rq) (w : World) : Calls Tryd.prog 47 #[.agg #[.int .i64 q.fx, .int .i64 q.fy, .int .i64 q.tx, .int .i64 q.ty, .int .i64 q.pe, .int .i64 q.pl, .int .i64 q.de, .int .i64 q.dl, .int .i64 q.ld, .int .i64 q.sv]] w
    fun e w' => e = .returned (.int .i64 q.chk) ∧ Below w.heap.size w w' := Order.Check_any _ _ _ _ _ _ _ _ _ _ w

set_option maxRecDepth 100000 in
set_option maxHeartbeats 4000000 in
theorem requests_runs (s : Sc) (vR vC vL vD : Value) (us : List (Value × Value)) (cm rv sch : Int) (B0 B : Nat) (hB : B0 ≤ B) (I : List (Int × Int) → World → Prop) (hI : ∀ p A, I p A → SceneAt B0 A vR vC vL vD us s) :
    Runs Tryd.prog 35 #[.agg #[vR, vC, vL, .int .i64 cm, .int .i64 rv, .int .i64 sch, vD]] #[] enc2 good2 (reqsL 0 s.reqs) B I := by
  intro l J W hWB h0 hJ hJI hY
  refine callsIn_of_wp Tryd.func35 rfl trivial ?_ rfl
  simp only [Tryd.ntmps35, List.size_toArray, List.length_cons, List.length_nil, Nat.reduceAdd, Nat.reduceSub, Array.replicate_succ, Array.replicate_zero, List.push_toArray, List.append_toArray, List.nil_append, List.cons_append]
  obtain ⟨x, cap, rfl, hlen, hcap, hrow⟩ := (hI _ _ (hJI _ _ h0)).reqs
  clear hrow
  simp only [List.length_map] at hlen hI ⊢
  unfold maxLen at hcap
  have hWs : B ≤ W.heap.size := by omega
  have hY' := Lib.hid hY
  have hI' := Lib.hid hI
  clear hY hI
  gi_wp2
  gi_loopw [9] (fun i wr => ∃ (pre : List (Int × Int)) (k : Nat) (rest : List Rq), i = .int .i64 k ∧ reqsL 0 s.reqs = pre ++ reqsL k rest ∧ s.reqs.drop k = rest ∧ (∀ y ∈ pre, good2 y = true) ∧ J pre wr ∧ B ≤ wr.heap.size)
    (fun i _ => s.reqs.length - (intOf i).toNat)
  case atStart => exact ⟨[], 0, s.reqs, rfl, rfl, rfl, (fun y hy => by cases hy), hJ.new h0 _, by simp; omega⟩
  case round =>
    obtain ⟨pre, k, rest, rfl, hL, hd, hg, hj, hs⟩ := hrel
    cases rest with
    | nil =>
      have hk := drop_nil hd
      have hk2 : ¬ (k < s.reqs.length) := by omega
      have hL' := Lib.hid hL
      clear hL hd
      clear hlen hcap
      gi_wp2
      go_end0
      refine ⟨⟨_, rfl⟩, ?_⟩
      have e : reqsL 0 s.reqs = pre := by rw [hL'.out]; simp [reqsL]
      rw [e, upTo_all hg]
      exact hj
    | cons q rest =>
      obtain ⟨hlt, hq, hd2⟩ := drop_cons hd
      obtain ⟨g, o, rfl, hgB, hc⟩ := RowB.row (hI'.out _ _ (hJI _ _ hj)).reqs (j := k) (r := rqV q) (by rw [List.getElem?_map, hq]; rfl)
      have c0 := hc 0 _ rfl
      have c1 := hc 1 _ rfl
      have c2 := hc 2 _ rfl
      have c3 := hc 3 _ rfl
      have c4 := hc 4 _ rfl
      have c5 := hc 5 _ rfl
      have c6 := hc 6 _ rfl
      have c7 := hc 7 _ rfl
      have c8 := hc 8 _ rfl
      have c9 := hc 9 _ rfl
      clear hc
      simp at c0 c1 c2 c3 c4 c5 c6 c7 c8 c9
      have hL' := Lib.hid hL
      have hg' := Lib.hid hg
      have hd' := Lib.hid hd2
      clear hL hd hd2 hq hg
      gi_wp2_with fail
      refine ⟨trivial, ?_⟩
      have hj1 := hJ.new hj (.cells #[.int .i64 q.fx, .int .i64 q.fy, .int .i64 q.tx, .int .i64 q.ty, .int .i64 q.pe, .int .i64 q.pl, .int .i64 q.de, .int .i64 q.dl, .int .i64 q.ld, .int .i64 q.sv] 66)
      refine (callsIn_wide.2 (reqCheck q _)).mono ?_
      rintro e w3 ⟨rfl, hb3⟩
      have hj3 := Old.below hJ hj1 hb3
      have hs3 : B ≤ w3.heap.size := by have := hb3.size; simp at this; omega
      clear hb3 hj1 c0 c1 c2 c3 c4 c5 c6 c7 c8 c9
      obtain ⟨fn, tmps, assign, body, hyy, hR⟩ := hY'.out 1 pre ((k : Int), q.chk) w3 hj3 hg'.out hs3
      dsimp only [enc2] at hyy
      gi_wp2
      refine hR.mono ?_
      rintro e w4 ⟨rfl, hj4, hk4⟩
      have hs4 : B ≤ w4.heap.size := Nat.le_trans hs3 hk4.size
      cases hgood : good2 ((k : Int), q.chk)
      · gi_wp2
        refine bodyPost_ret (results_none rfl _ _ _) rfl ?_
        refine ⟨⟨_, rfl⟩, ?_⟩
        have e : reqsL 0 s.reqs = pre ++ ((k : Int), q.chk) :: reqsL (k + 1) rest := hL'.out
        rw [e, upTo_append hg'.out, upTo_bad hgood]
        exact hj4
      · gi_wp2
        go_roundw
        case rel =>
          refine ⟨pre ++ [((k : Int), q.chk)], k + 1, rest, by go_num, ?_, hd'.out, good_snoc hg'.out hgood, hj4, hs4⟩
          have e : reqsL 0 s.reqs = pre ++ ((k : Int), q.chk) :: reqsL (k + 1) rest := hL'.out
          rw [e]; simp
        case measure => simp [intOf]; omega

end Go.Proofs.YtlkijbakfoabaaaDoor.Scene

/-
  Package scene's iterator over carriers.
-/
import Derived.Test.YtlkijbakfoabaaaDoorSceneLots
namespace Go.Proofs.YtlkijbakfoabaaaDoor.Scene
open Go.RowKit Go.Shelf Go.Proofs.YtlkijbakfoabaaaDoor.Mem Go.Proofs.YtlkijbakfoabaaaDoor.Up
set_option linter.unusedVariables false

attribute [local go_sem] Oper.semAt_some

theorem vehCheck (q : Vh) (w : World) : Calls Tryd.prog 48 #[.agg #[.int .i64 q.hx, .int .i64 q.hy, .int .i64 q.cp, .int .i64 q.st, .int .i64 q.en]] w
    fun e w' => e = .returned (.int .i64 q.chk) ∧ Below w.heap.size w w' := Order.Vehicle_any _ _ _ _ _ w

theorem carsL_cons (N : Int) (c : Nat) (ps : List (Int × Int)) (x : Cr) (xs : List Cr) : carsL N c ps (x :: xs) = vehsL c x.fleet ++ (ownsL N c ps x.own ++ carsL N (c + 1) (ps ++ pairsC c x) xs) := rfl
theorem vehsL_cons (c : Int) (x : Vh) (xs : List Vh) : vehsL c (x :: xs) = (c, x.chk) :: vehsL c xs := rfl
theorem ownsL_cons (N c : Int) (ps : List (Int × Int)) (r : Int) (rs : List Int) : ownsL N c ps (r :: rs) = (c, clmC N ps r) :: ownsL N c (ps ++ [(r, c)]) rs := rfl
theorem pairsL_cons (c : Nat) (x : Cr) (xs : List Cr) : pairsL c (x :: xs) = pairsC c x ++ pairsL (c + 1) xs := rfl
theorem nobodyL_succ (N : Int) (ps : List (Int × Int)) (r n : Nat) : nobodyL N ps r (n + 1) = ((r : Int), unV (mapP N ps r).isSome 11) :: nobodyL N ps (r + 1) n := rfl
theorem ofV_nobody {f : Int → Option Int} (hf : ∀ q d, f q = some d → 0 ≤ d) (r : Int) : (ofV f r != -1) = (f r).isSome := by
  unfold ofV
  cases h : f r with
  | none => rfl
  | some d => have := hf r d h; simp; omega

set_option maxRecDepth 100000 in
set_option maxHeartbeats 4000000 in
theorem carriers_runs (s : Sc) (hfair : Fair s) (vR vC vL vD : Value) (us : List (Value × Value)) (cm rv sch : Int) (B0 B : Nat) (hB : B0 ≤ B) (I : List (Int × Int) → World → Prop) (hI : ∀ p A, I p A → SceneAt B0 A vR vC vL vD us s) :
    Runs Tryd.prog 36 #[.agg #[vR, vC, vL, .int .i64 cm, .int .i64 rv, .int .i64 sch, vD]] #[] enc2 good2 (carriersL s) B I := by
  intro l J W hWB h0 hJ hJI hY
  refine callsIn_of_wp Tryd.func36 rfl trivial ?_ rfl
  simp only [Tryd.ntmps36, List.size_toArray, List.length_cons, List.length_nil, Nat.reduceAdd, Nat.reduceSub, Array.replicate_succ, Array.replicate_zero, List.push_toArray, List.append_toArray, List.nil_append, List.cons_append]
  obtain ⟨xR, capR, rfl, hlenR, hcapR, hrowR⟩ := (hI _ _ (hJI _ _ h0)).reqs
  obtain ⟨hus, ⟨xC, capC, rfl, hlenC, hcapC, hrowC⟩, hcarsC⟩ := (hI _ _ (hJI _ _ h0)).cars
  clear hrowR hrowC hcarsC
  simp only [List.length_map, hus] at hlenR hlenC hI ⊢
  unfold maxLen at hcapR hcapC
  clear hus
  have hWs : B ≤ W.heap.size := by omega
  obtain ⟨W1, hW1⟩ : ∃ W1, (W.alloc (.cells #[.slice xR s.reqs.length capR, .slice xC s.cars.length capC, vL, .int .i64 cm, .int .i64 rv, .int .i64 sch, vD] 77)).alloc (.map #[] 0) = W1 := ⟨_, rfl⟩
  have hP : At W1 B 77 #[.slice xR s.reqs.length capR, .slice xC s.cars.length capC, vL, .int .i64 cm, .int .i64 rv, .int .i64 sch, vD] := by rw [← hW1]; exact (At.new_ _ _ _ hWB.symm).alloc _
  have hM : MapAt W1 (B + 1) 0 (mapP s.reqs.length []) := by
    rw [← hW1]
    have := MapAt.made (W.alloc (.cells #[.slice xR s.reqs.length capR, .slice xC s.cars.length capC, vL, .int .i64 cm, .int .i64 rv, .int .i64 sch, vD] 77))
    rw [World.size_alloc, hWB] at this
    refine this.funs fun r => ?_
    unfold mapP whoP
    split <;> rfl
  have hj1 : J [] W1 := by rw [← hW1]; exact hJ.new (hJ.new h0 _) _
  have hs1 : B + 2 ≤ W1.heap.size := by rw [← hW1]; simp; omega
  have hW1' := Lib.hid hW1
  have hY' := Lib.hid hY
  have hI' := Lib.hid hI
  have hfair' := Lib.hid hfair
  clear hY hI hW1 hfair
  have hmm := @run_makeMap Tryd.prog
  have p2 := hP.cell 1
  simp at p2
  gi_wp2_with fail
  rw [hW1'.out]
  gi_loopw [16] (fun i wr => ∃ (pre : List (Int × Int)) (k : Nat) (rest : List Cr) (ps : List (Int × Int)), i = .int .i64 k ∧
      carriersL s = pre ++ (carsL s.reqs.length k ps rest ++ nobodyL s.reqs.length (pairsL 0 s.cars) 0 s.reqs.length) ∧ pairsL 0 s.cars = ps ++ pairsL k rest ∧ s.cars.drop k = rest ∧ (∀ y ∈ pre, good2 y = true) ∧ J pre wr ∧ B + 2 ≤ wr.heap.size ∧
      At wr B 77 #[.slice xR s.reqs.length capR, .slice xC s.cars.length capC, vL, .int .i64 cm, .int .i64 rv, .int .i64 sch, vD] ∧ MapAt wr (B + 1) ps.length (mapP s.reqs.length ps) ∧ ∀ p ∈ ps, 0 ≤ p.2)
    (fun i _ => s.cars.length - (intOf i).toNat)
  case atStart => exact ⟨[], 0, s.cars, [], rfl, rfl, rfl, rfl, (fun y hy => by cases hy), hj1, hs1, hP, hM, fun y hy => by cases hy⟩
  case round =>
    obtain ⟨pre, k, rest, ps, rfl, hL, hpp, hd, hg, hj, hs, hPk, hMk, hps⟩ := hrel
    clear hP hM p2 hj1 hs1
    cases rest with
    | nil =>
      have hk := drop_nil hd
      have hk2 : ¬ (k < s.cars.length) := by omega
      have hpe : pairsL 0 s.cars = ps := by rw [hpp]; simp [pairsL]
      rw [hpe] at hL
      have hL' : Hid (carriersL s = pre ++ nobodyL s.reqs.length ps 0 s.reqs.length) := Lib.hid (by rw [hL]; simp [carsL])
      have hg' := Lib.hid hg
      have hps' := Lib.hid hps
      have v0 := hPk.cell 0
      simp at v0
      clear hL hd hpp hpe hlenC hcapC hg hps
      gi_wp2_with fail
      gi_loopw [56] (fun i wr => ∃ (pre : List (Int × Int)) (j m : Nat), i = .int .i64 j ∧ carriersL s = pre ++ nobodyL s.reqs.length ps j m ∧ j + m = s.reqs.length ∧ (∀ y ∈ pre, good2 y = true) ∧ J pre wr ∧ B + 2 ≤ wr.heap.size ∧
          MapAt wr (B + 1) ps.length (mapP s.reqs.length ps))
        (fun i _ => s.reqs.length - (intOf i).toNat)
      case atStart => exact ⟨pre, 0, s.reqs.length, rfl, hL'.out, by omega, hg'.out, hj, hs, hMk⟩
      case round =>
        clear hL' hg' hj hs hMk v0 hPk
        obtain ⟨pre, j, m, rfl, hL, hjm, hg, hj, hs, hMk⟩ := hrel
        cases m with
        | zero =>
          have hk3 : ¬ (j < s.reqs.length) := by omega
          have hL' := Lib.hid hL
          clear hL hlenR hcapR hjm
          gi_wp2
          go_end0
          refine ⟨⟨_, rfl⟩, ?_⟩
          have e : carriersL s = pre := by rw [hL'.out]; simp [nobodyL]
          rw [e, upTo_all hg]
          exact hj
        | succ m =>
          have hlt : j < s.reqs.length := by omega
          have hL' := Lib.hid (hL.trans (by rw [nobodyL_succ]))
          have hg' := Lib.hid hg
          have hjm' := Lib.hid hjm
          clear hL hg hjm
          have hrn := hfair'.out.rnum
          have hof := ofV_nobody (mapP_pos (N := s.reqs.length) hps'.out) (j : Int)
          gi_wp2_with fail
          refine ⟨trivial, ?_⟩
          refine (callsIn_wide.2 (of_any _ (B + 1) ps.length _ j ⟨by omega, by omega⟩ hMk)).mono ?_
          rintro e w5 ⟨rfl, rfl⟩
          gi_wp2_with fail
          refine ⟨trivial, ?_⟩
          refine (callsIn_wide.2 (unless_any _ _ _)).mono ?_
          rintro e w5 ⟨rfl, rfl⟩
          obtain ⟨fn, tmps, assign, body, hyy, hR⟩ := hY'.out 1 pre ((j : Int), unV (mapP s.reqs.length ps j).isSome 11) _ hj hg'.out (by omega)
          dsimp only [enc2] at hyy
          gi_wp2_with fail
          refine hR.mono ?_
          clear hR hyy
          rintro e w4 ⟨rfl, hj4, hk4⟩
          have hs4 : B + 2 ≤ w4.heap.size := Nat.le_trans hs hk4.size
          have hM4 := hMk.kept hk4 (by omega)
          clear hk4 hj hMk hof hrn
          cases hgood : good2 ((j : Int), unV (mapP s.reqs.length ps j).isSome 11)
          · gi_wp2
            refine bodyPost_ret (results_none rfl _ _ _) rfl ?_
            refine ⟨⟨_, rfl⟩, ?_⟩
            rw [hL'.out, upTo_append hg'.out, upTo_bad hgood]
            exact hj4
          · gi_wp2
            go_roundw
            case rel =>
              refine ⟨pre ++ [((j : Int), unV (mapP s.reqs.length ps j).isSome 11)], j + 1, m, by go_num, ?_, by have := hjm'.out; omega, good_snoc hg'.out hgood, hj4, hs4, hM4⟩
              rw [hL'.out]; simp
            case measure => simp [intOf]; omega
    | cons q rest =>
      obtain ⟨wo, rfl⟩ : ∃ wo, wo = wr := ⟨_, rfl⟩
      obtain ⟨hlt, hq, hd2⟩ := drop_cons hd
      have hcs := (hI'.out _ _ (hJI _ _ hj)).cars
      obtain ⟨xF, capF, xO, capO, huk, hlenF, hcapF, hlenO, hcapO, hk3⟩ := hcs.get hq
      obtain ⟨g, o, rfl, hgB, hc⟩ := RowB.row hcs.row hk3
      unfold maxLen at hcapF hcapO
      have c0 := hc 0 _ rfl
      have c1 := hc 1 _ rfl
      clear hc hk3 hcs
      simp at c0 c1
      have huk' := Lib.hid huk
      have hq' := Lib.hid hq
      have hL' := Lib.hid (hL.trans (by rw [carsL_cons, List.append_assoc, List.append_assoc]))
      have hpp' := Lib.hid (hpp.trans (by rw [pairsL_cons]))
      have hg' := Lib.hid hg
      have hd' := Lib.hid hd2
      have hps' := Lib.hid hps
      clear hL hd hd2 hq hg hpp hps huk
      have hX := At.new wo 53 #[.slice xF q.fleet.length capF, .slice xO q.own.length capO]
      have hPV := hPk.alloc (.cells #[.slice xF q.fleet.length capF, .slice xO q.own.length capO] 53)
      have hMV := hMk.alloc (.cells #[.slice xF q.fleet.length capF, .slice xO q.own.length capO] 53)
      have hjV := hJ.new hj (.cells #[.slice xF q.fleet.length capF, .slice xO q.own.length capO] 53)
      have hsV : B + 2 ≤ (wo.alloc (.cells #[.slice xF q.fleet.length capF, .slice xO q.own.length capO] 53)).heap.size := by simp; omega
      have hwn : B + 2 ≤ wo.heap.size := hs
      clear hPk hMk hj hs
      gi_wp2_with fail
      gi_loopw [24] (fun i w2 => ∃ (pre : List (Int × Int)) (j : Nat) (restV : List Vh), i = .int .i64 j ∧
          carriersL s = pre ++ (vehsL k restV ++ (ownsL s.reqs.length k ps q.own ++ (carsL s.reqs.length (k + 1) (ps ++ pairsC k q) rest ++ nobodyL s.reqs.length (pairsL 0 s.cars) 0 s.reqs.length))) ∧ q.fleet.drop j = restV ∧
          (∀ y ∈ pre, good2 y = true) ∧ J pre w2 ∧ wo.heap.size + 1 ≤ w2.heap.size ∧
          At w2 B 77 #[.slice xR s.reqs.length capR, .slice (some ⟨g, o, none⟩) s.cars.length capC, vL, .int .i64 cm, .int .i64 rv, .int .i64 sch, vD] ∧ MapAt w2 (B + 1) ps.length (mapP s.reqs.length ps) ∧
          At w2 wo.heap.size 53 #[.slice xF q.fleet.length capF, .slice xO q.own.length capO])
        (fun i _ => q.fleet.length - (intOf i).toNat)
      case atStart => exact ⟨pre, 0, q.fleet, rfl, hL'.out, rfl, hg'.out, hjV, by simp, hPV, hMV, hX⟩
      case round =>
        clear hL' hg' hjV hPV hMV hX hsV c0 c1
        obtain ⟨pre, j, restV, rfl, hL, hd, hg, hj, hs, hPk, hMk, hX⟩ := hrel
        cases restV with
        | cons h restV =>
          obtain ⟨hlt2, hq2, hd3⟩ := drop_cons hd
          obtain ⟨gF, oF, rfl, hgF, hc⟩ := RowB.row ((hI'.out _ _ (hJI _ _ hj)).cars.car k _ q huk'.out hq'.out).fleet (j := j) (r := vhV h) (by rw [List.getElem?_map, hq2]; rfl)
          have c0 := hc 0 _ rfl
          have c1 := hc 1 _ rfl
          have c2 := hc 2 _ rfl
          have c3 := hc 3 _ rfl
          have c4 := hc 4 _ rfl
          clear hc
          simp at c0 c1 c2 c3 c4
          have hL' := Lib.hid (hL.trans (by rw [vehsL_cons]))
          have hg' := Lib.hid hg
          have hd4 := Lib.hid hd3
          clear hL hd hd3 hq2 hg
          have hPV := hPk.alloc (.cells #[.int .i64 h.hx, .int .i64 h.hy, .int .i64 h.cp, .int .i64 h.st, .int .i64 h.en] 57)
          have hMV := hMk.alloc (.cells #[.int .i64 h.hx, .int .i64 h.hy, .int .i64 h.cp, .int .i64 h.st, .int .i64 h.en] 57)
          have hXV := hX.alloc (.cells #[.int .i64 h.hx, .int .i64 h.hy, .int .i64 h.cp, .int .i64 h.st, .int .i64 h.en] 57)
          have hjV := hJ.new hj (.cells #[.int .i64 h.hx, .int .i64 h.hy, .int .i64 h.cp, .int .i64 h.st, .int .i64 h.en] 57)
          clear hPk hMk hX hj
          gi_wp2_with fail
          refine ⟨trivial, ?_⟩
          refine (callsIn_wide.2 (vehCheck h _)).mono ?_
          rintro e w3 ⟨rfl, hb3⟩
          have hj3 := Old.below hJ hjV hb3
          have hP3 := hPV.keep hb3 hPV.inside
          have hM3 := hMV.keep hb3 hMV.inside
          have hX3 := hXV.keep hb3 hXV.inside
          have hs3 : wo.heap.size + 1 ≤ w3.heap.size := by have := hb3.size; simp at this; omega
          clear hb3 hjV hPV hMV hXV c0 c1 c2 c3 c4 hs
          obtain ⟨fn, tmps, assign, body, hyy, hR⟩ := hY'.out 1 pre ((k : Int), h.chk) w3 hj3 hg'.out (by omega)
          dsimp only [enc2] at hyy
          gi_wp2_with fail
          refine hR.mono ?_
          clear hR hyy
          rintro e w4 ⟨rfl, hj4, hk4⟩
          have hP4 := At.kept hP3 hk4 (Nat.le_refl _)
          have hM4 := hM3.kept hk4 (by omega)
          have hX4 := At.kept hX3 hk4 (by omega)
          have hs4 : wo.heap.size + 1 ≤ w4.heap.size := Nat.le_trans hs3 hk4.size
          clear hk4 hj3 hP3 hM3 hX3 hs3
          cases hgood : good2 ((k : Int), h.chk)
          · gi_wp2
            refine bodyPost_ret (results_none rfl _ _ _) rfl ?_
            refine ⟨⟨_, rfl⟩, ?_⟩
            rw [hL'.out, upTo_append hg'.out, List.cons_append, upTo_bad hgood]
            exact hj4
          · gi_wp2
            go_roundw
            case rel =>
              refine ⟨pre ++ [((k : Int), h.chk)], j + 1, restV, by go_num, ?_, hd4.out, good_snoc hg'.out hgood, hj4, hs4, hP4, hM4, hX4⟩
              rw [hL'.out]; simp
            case measure => simp [intOf]; omega
        | nil =>
          have hk := drop_nil hd
          have hk2 : ¬ (j < q.fleet.length) := by omega
          have hL' : Hid (carriersL s = pre ++ (ownsL s.reqs.length k ps q.own ++ (carsL s.reqs.length (k + 1) (ps ++ pairsC k q) rest ++ nobodyL s.reqs.length (pairsL 0 s.cars) 0 s.reqs.length))) := Lib.hid (by rw [hL]; rfl)
          have hg' := Lib.hid hg
          have x1 := hX.cell 1
          simp at x1
          clear hL hd hg hk
          gi_wp2_with fail
          gi_loopw [38] (fun i w3 => ∃ (pre : List (Int × Int)) (j : Nat) (restO : List Int) (ps2 : List (Int × Int)), i = .int .i64 j ∧
              carriersL s = pre ++ (ownsL s.reqs.length k ps2 restO ++ (carsL s.reqs.length (k + 1) (ps ++ pairsC k q) rest ++ nobodyL s.reqs.length (pairsL 0 s.cars) 0 s.reqs.length)) ∧ q.own.drop j = restO ∧
              ps2 ++ restO.map (fun r => (r, (k : Int))) = ps ++ pairsC k q ∧ (∀ y ∈ pre, good2 y = true) ∧ J pre w3 ∧ B + 2 ≤ w3.heap.size ∧
              At w3 B 77 #[.slice xR s.reqs.length capR, .slice (some ⟨g, o, none⟩) s.cars.length capC, vL, .int .i64 cm, .int .i64 rv, .int .i64 sch, vD] ∧ MapAt w3 (B + 1) ps2.length (mapP s.reqs.length ps2) ∧ ∀ p ∈ ps2, 0 ≤ p.2)
            (fun i _ => q.own.length - (intOf i).toNat)
          case atStart => exact ⟨pre, 0, q.own, ps, rfl, hL'.out, rfl, rfl, hg'.out, hj, by omega, hPk, hMk, hps'.out⟩
          case round =>
            clear hL' hg' hj hPk hMk hX x1 hs hk2 hps'
            obtain ⟨pre, j2, restO, ps2, rfl, hL, hd, hps2, hg, hj, hs, hPk, hMk, hpos⟩ := hrel
            cases restO with
            | nil =>
              have hk := drop_nil hd
              have hk2 : ¬ (j2 < q.own.length) := by omega
              have hL' : Hid (carriersL s = pre ++ (carsL s.reqs.length (k + 1) (ps ++ pairsC k q) rest ++ nobodyL s.reqs.length (pairsL 0 s.cars) 0 s.reqs.length)) := Lib.hid (by rw [hL]; rfl)
              obtain rfl : ps2 = ps ++ pairsC k q := by simpa using hps2
              have hg' := Lib.hid hg
              have hpos' := Lib.hid hpos
              clear hL hd hg hk hps2 hpos
              gi_wp2
              go_roundw
              case rel => exact ⟨pre, k + 1, rest, ps ++ pairsC k q, by go_num, hL'.out, by rw [hpp'.out, List.append_assoc], hd'.out, hg'.out, hj, hs, hPk, hMk, hpos'.out⟩
              case measure => simp [intOf]; omega
            | cons r restO =>
              obtain ⟨hlt2, hq2, hd3⟩ := drop_cons hd
              obtain ⟨gF, oF, rfl, hgF, hc⟩ := RowB.row ((hI'.out _ _ (hJI _ _ hj)).cars.car k _ q huk'.out hq'.out).own (j := j2) (r := inV r) (by rw [List.getElem?_map, hq2]; rfl)
              have c0 := hc 0 _ rfl
              clear hc
              simp at c0
              have hrI : I64 r := hfair'.out.owns q (List.mem_of_getElem? hq'.out) r (List.mem_of_getElem? hq2)
              have hfew : ps2.length < 4294967296 := by
                have h1 := hfair'.out.few
                rw [hpp'.out] at h1
                have h2 := congrArg List.length hps2
                simp only [List.length_append, List.length_map, List.length_cons] at h1 h2
                omega
              have hrn := hfair'.out.rnum
              have hcn := hfair'.out.cnum
              have hL' := Lib.hid (hL.trans (by rw [ownsL_cons]))
              have hg' := Lib.hid hg
              have hd4 := Lib.hid hd3
              have hps3 := Lib.hid hps2
              have hpos' := Lib.hid hpos
              have v0 := hPk.cell 0
              have v1 := hPk.cell 1
              have v2 := hPk.cell 2
              have v3 := hPk.cell 3
              have v4 := hPk.cell 4
              have v5 := hPk.cell 5
              have v6 := hPk.cell 6
              simp at v0 v1 v2 v3 v4 v5 v6
              clear hL hd hd3 hq2 hg hps2 hpos
              gi_wp2_with fail
              refine ⟨trivial, ?_⟩
              refine (callsIn_wide.2 (claim_p _ (B + 1) ps2.length ps2 xR s.reqs.length capR _ _ _ _ _ _ r k hrI ⟨by omega, by omega⟩ (by omega) hfew hpos'.out hMk)).mono ?_
              rintro e w4 ⟨rfl, hM3, hT3⟩
              have hj3 := Old.turned hJ hj hT3 (by omega) hMk.obj
              have hP3 := At.turned hPk hT3 (by omega)
              have hs3 : B + 2 ≤ w4.heap.size := Nat.le_trans hs hT3.size
              clear hT3 hMk hPk hj c0 v0 v1 v2 v3 v4 v5 v6 hs
              obtain ⟨fn, tmps, assign, body, hyy, hR⟩ := hY'.out 1 pre ((k : Int), clmC s.reqs.length ps2 r) w4 hj3 hg'.out (by omega)
              dsimp only [enc2] at hyy
              gi_wp2_with fail
              refine hR.mono ?_
              clear hR hyy
              rintro e w5 ⟨rfl, hj5, hk5⟩
              have hP5 := At.kept hP3 hk5 (Nat.le_refl _)
              have hM5 := hM3.kept hk5 (by omega)
              have hs5 : B + 2 ≤ w5.heap.size := Nat.le_trans hs3 hk5.size
              clear hk5 hj3 hP3 hM3 hs3
              cases hgood : good2 ((k : Int), clmC s.reqs.length ps2 r)
              · gi_wp2
                refine bodyPost_ret (results_none rfl _ _ _) rfl ?_
                refine ⟨⟨_, rfl⟩, ?_⟩
                rw [hL'.out, upTo_append hg'.out, List.cons_append, upTo_bad hgood]
                exact hj5
              · gi_wp2
                go_roundw
                case rel =>
                  refine ⟨pre ++ [((k : Int), clmC s.reqs.length ps2 r)], j2 + 1, restO, ps2 ++ [(r, (k : Int))], by go_num, ?_, hd4.out, ?_, good_snoc hg'.out hgood, hj5, hs5, hP5, by simpa using hM5, pos_snoc hpos'.out _ (by omega)⟩
                  · rw [hL'.out]; simp
                  · rw [← hps3.out]; simp
                case measure => simp [intOf]; omega

end Go.Proofs.YtlkijbakfoabaaaDoor.Scene

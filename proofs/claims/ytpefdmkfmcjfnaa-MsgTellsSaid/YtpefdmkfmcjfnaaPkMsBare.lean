import Derived.Test.YtpefdmkfmcjfnaaPkMsWalk

namespace Go.Proofs.Ytpefdmkfmcjfnaa.Ms
open Go.RowKit Go.Sort Go.Proofs.Ytpefdmkfmcjfnaa.Mem Go.Proofs.Ytpefdmkfmcjfnaa.Route Go.Proofs.Ytpefdmkfmcjfnaa.Oct Go.Proofs.Ytpefdmkfmcjfnaa.Part Go.Proofs.Ytpefdmkfmcjfnaa.Dr
set_option linter.unusedVariables false
def nilS : Value := .slice none 0 0
def hdC (m : Ms) : List Value := [.int .i64 m.kind, .int .i64 m.rnd, .int .i64 m.car, .int .i64 m.req, .int .i64 m.rsv] ++ (rqC m.rq ++ m.dig.map u8V)
theorem hd_len {m : Ms} (h : m.dig.length = 32) : (hdC m).length = 47 := by simp [hdC, rqC, h]
theorem ms_hd (m : Ms) (v : Value) : msC m v = hdC m ++ (v :: .int .u64 (m.bid : Int) :: .int .u64 (m.nonce : Int) :: ocC m.oc) := by simp [msC, hdC]
theorem set_car (m : Ms) (v : Value) (x : Int) : (msC m v).set 2 (.int .i64 x) = msC { m with car := x } v := rfl
theorem set_req (m : Ms) (v : Value) (x : Int) : (msC m v).set 3 (.int .i64 x) = msC { m with req := x } v := rfl
theorem set_rsv (m : Ms) (v : Value) (x : Int) : (msC m v).set 4 (.int .i64 x) = msC { m with rsv := x } v := rfl
theorem set_rq (m : Ms) (v : Value) (r : Rq) : putL (msC m v) 5 (rqC r) = msC { m with rq := r } v := rfl
theorem set_dig (m : Ms) (v : Value) (d : Bs) (h : m.dig.length = 32) (hd : d.length = 32) : putL (msC m v) 15 (d.map u8V) = msC { m with dig := d } v := by
 have e : msC m v = ([.int .i64 m.kind, .int .i64 m.rnd, .int .i64 m.car, .int .i64 m.req, .int .i64 m.rsv] ++ rqC m.rq) ++ (m.dig.map u8V ++ (v :: .int .u64 (m.bid : Int) :: .int .u64 (m.nonce : Int) :: ocC m.oc)) := by simp [msC]
 have hl : ([.int .i64 m.kind, .int .i64 m.rnd, .int .i64 m.car, .int .i64 m.req, .int .i64 m.rsv] ++ rqC m.rq : List Value).length = 15 := rfl
 rw [e, putL, List.take_left' hl, List.drop_append, hl, List.length_map, hd, List.drop_eq_nil_of_le (by rw [hl]; omega), List.nil_append, show 15 + 32 - 15 = 32 by omega, List.drop_left' (by rw [List.length_map, h])]
 simp [msC]
theorem set_marks (m : Ms) (v x : Value) (h : m.dig.length = 32) : (msC m v).set 47 x = msC m x := by
 rw [ms_hd, ms_hd, List.set_append_right 47 _ (by rw [hd_len h]; omega), hd_len h]
 rfl
theorem set_bid (m : Ms) (v : Value) (x : Nat) (h : m.dig.length = 32) : (msC m v).set 48 (.int .u64 (x : Int)) = msC { m with bid := x } v := by
 rw [ms_hd, ms_hd, List.set_append_right 48 _ (by rw [hd_len h]; omega), hd_len h]
 rfl
theorem set_nonce (m : Ms) (v : Value) (x : Nat) (h : m.dig.length = 32) : (msC m v).set 49 (.int .u64 (x : Int)) = msC { m with nonce := x } v := by
 rw [ms_hd, ms_hd, List.set_append_right 49 _ (by rw [hd_len h]; omega), hd_len h]
 rfl
theorem set_oc (m : Ms) (v : Value) (o : Oc) (h : m.dig.length = 32) : putL (msC m v) 50 (ocC o) = msC { m with oc := o } v := by
 rw [ms_hd, ms_hd, putL, List.take_append, hd_len h, List.drop_append, hd_len h, List.take_of_length_le (by rw [hd_len h]; omega), List.drop_eq_nil_of_le (by rw [hd_len h]; simp [ocC])]
 simp [hdC, ocC]
theorem z0_lit : (#[.int .i64 0, .int .i64 0, .int .i64 0, .int .i64 0, .int .i64 0, .int .i64 0, .int .i64 0, .int .i64 0, .int .i64 0, .int .i64 0, .int .i64 0, .int .i64 0, .int .i64 0, .int .i64 0, .int .i64 0, .int .u8 0, .int .u8 0, .int .u8 0, .int .u8 0, .int .u8 0, .int .u8 0, .int .u8 0, .int .u8 0, .int .u8 0, .int .u8 0, .int .u8 0, .int .u8 0, .int .u8 0, .int .u8 0, .int .u8 0, .int .u8 0, .int .u8 0, .int .u8 0, .int .u8 0, .int .u8 0, .int .u8 0, .int .u8 0, .int .u8 0, .int .u8 0, .int .u8 0, .int .u8 0, .int .u8 0, .int .u8 0, .int .u8 0, .int .u8 0, .int .u8 0, .int .u8 0, .slice none 0 0, .int .u64 0, .int .u64 0, .int .i64 0, .int .i64 0, .int .u64 0] : Array Value) = (msC z0 nilS).toArray := rfl
theorem ms_one {m : Ms} {v : Value} (h : v.oneCell' = true) : ∀ u ∈ msC m v, u.oneCell' = true := by
 intro u hu
 simp only [msC, rqC, ocC, List.mem_append, List.mem_cons, List.not_mem_nil, or_false, List.mem_map] at hu
 rcases hu with (h1 | h1 | h1 | h1 | h1) | (h1 | h1 | h1 | h1 | h1 | h1 | h1 | h1 | h1 | h1) | ⟨x, -, h1⟩ | h1 | h1 | h1 | h1 | h1 | h1
 all_goals first | (subst h1; first | rfl | exact h)
theorem z_ok : z0.ok := ⟨rfl, fun p hp => by cases hp⟩
def ZM (f : (Nat → Bool) → Ms) (g : Nat) (done : Nat → Bool) (ys : Nat → Value) (w : World) : Prop := AtL w g 42 (msC (f done) nilS)
theorem ZM.light {f : (Nat → Bool) → Ms} {g k : Nat} {done : Nat → Bool} {ys : Nat → Value} {w : World} {v : Value} (h : ZM f g done ys w) (hf : f (Sched.mark done k) = f done) : ZM f g (Sched.mark done k) (Sched.upd ys k v) w := by
 unfold ZM
 rw [hf]
 exact h
theorem one_dig (d : Bs) : ∀ u ∈ d.map u8V, u.oneCell' = true := one_u8
theorem one_rq (r : Rq) : ∀ u ∈ rqC r, u.oneCell' = true := by
 intro u hu
 simp only [rqC, List.mem_cons, List.not_mem_nil, or_false] at hu
 rcases hu with h1 | h1 | h1 | h1 | h1 | h1 | h1 | h1 | h1 | h1
 all_goals (subst h1; rfl)
theorem one_oc (o : Oc) : ∀ u ∈ ocC o, u.oneCell' = true := by
 intro u hu
 simp only [ocC, List.mem_cons, List.not_mem_nil, or_false] at hu
 rcases hu with h1 | h1 | h1
 all_goals (subst h1; rfl)
set_option maxRecDepth 100000 in
set_option maxHeartbeats 16000000 in
theorem bare_any (m : Ms) (x : Option Addr) (Nn cp : Nat) (hm : m.ok) (w : World) :
 Calls Try.prog 47 #[.agg (msC m (.slice x Nn cp)).toArray] w fun e w' => e = .returned (.agg (msC (bareM m) (if m.kind = 3 then (.slice x Nn cp) else nilS)).toArray) ∧ Below w.heap.size w w' := by
 have hA : AtL ((w.alloc (.cells (msC m (.slice x Nn cp)).toArray 42)).alloc (.cells (msC z0 nilS).toArray 42)) w.heap.size 42 (msC m (.slice x Nn cp)) := (AtL.new w _ _).alloc _
 have hR : AtL ((w.alloc (.cells (msC m (.slice x Nn cp)).toArray 42)).alloc (.cells (msC z0 nilS).toArray 42)) (w.heap.size + 1) 42 (msC z0 nilS) := by have := AtL.new (w.alloc (.cells (msC m (.slice x Nn cp)).toArray 42)) 42 (msC z0 nilS); rwa [World.size_alloc] at this
 have hB0 : Below w.heap.size w ((w.alloc (.cells (msC m (.slice x Nn cp)).toArray 42)).alloc (.cells (msC z0 nilS).toArray 42)) := ((Below.refl _ _).alloc (Nat.le_refl _) _).alloc (by simp) _
 have hs2 : ((w.alloc (.cells (msC m (.slice x Nn cp)).toArray 42)).alloc (.cells (msC z0 nilS).toArray 42)).heap.size = w.heap.size + 2 := by simp
 obtain ⟨vv, hvv⟩ : ∃ vv, (if m.kind = 3 then (.slice x Nn cp) else nilS) = vv := ⟨_, rfl⟩
 obtain ⟨n0, hn0⟩ : ∃ n0, w.heap.size = n0 := ⟨_, rfl⟩
 rw [hvv]
 rw [show Below w.heap.size w = Below n0 w by rw [hn0]]
 replace hvv := Lib.hid hvv
 replace hn0 := Lib.hid hn0
 go_enter Try.func47, Try.ntmps47
 go_upto_region 1 with fail
 rw [z0_lit]
 generalize ((w.alloc (.cells (msC m (.slice x Nn cp)).toArray 42)).alloc (.cells (msC z0 nilS).toArray 42)) = W1 at *
 have c0 := hA.get ms_kind
 have c1 := hA.get ms_rnd
 have hb2 : Try.prog.built 42 [(0, .int .i64 m.kind), (1, .int .i64 m.rnd)] = some (msC { z0 with kind := m.kind, rnd := m.rnd } nilS).toArray := by kernel_rfl
 have hO : AtL (W1.alloc (.cells (msC z0 nilS).toArray 42)) (w.heap.size + 2) 42 (msC z0 nilS) := by rw [← hs2]; exact AtL.new W1 42 (msC z0 nilS)
 have hi53 : (Try.prog.info? 42).map (·.size) = some (msC { z0 with kind := m.kind, rnd := m.rnd } nilS).length := by kernel_rfl
 have h1c : ∀ u ∈ msC { z0 with kind := m.kind, rnd := m.rnd } nilS, u.oneCell' = true := ms_one rfl
 go_upto_region 2 with (first | (refine wpList_built2 rfl 42 0 1 _ _ rfl _ _ rfl rfl _ hb2 ?_) | (refine wpList_store_part rfl 42 _ _ rfl (w.heap.size + 2) 0 (msC { z0 with kind := m.kind, rnd := m.rnd } nilS) rfl rfl 42 (msC z0 nilS) hO hi53 (Nat.le_refl _) h1c ?_))
 have hA2 := ((hA.alloc (.cells (msC z0 nilS).toArray 42)).rowFar (b := w.heap.size + 2) (by omega) (putL (msC z0 nilS) 0 (msC { z0 with kind := m.kind, rnd := m.rnd } nilS)).toArray)
 have hR2 := ((hR.alloc (.cells (msC z0 nilS).toArray 42)).rowFar (b := w.heap.size + 2) (by omega) (putL (msC z0 nilS) 0 (msC { z0 with kind := m.kind, rnd := m.rnd } nilS)).toArray)
 have hO2 := hO.row (putL (msC z0 nilS) 0 (msC { z0 with kind := m.kind, rnd := m.rnd } nilS))
 have hB2 := below_row (hB0.alloc hB0.size (.cells (msC z0 nilS).toArray 42)) (g := w.heap.size + 2) (by omega) (putL (msC z0 nilS) 0 (msC { z0 with kind := m.kind, rnd := m.rnd } nilS)).toArray
 rw [z0_lit]
 rw [put_all (old := msC z0 nilS) (cs := msC { z0 with kind := m.kind, rnd := m.rnd } nilS) rfl] at hA2 hR2 hB2 hO2 ⊢
 simp only [Act.put]
 generalize hZ : ({ z0 with kind := m.kind, rnd := m.rnd } : Ms) = Z at *
 generalize (W1.alloc (.cells (msC z0 nilS).toArray 42)).setRow (w.heap.size + 2) (msC Z nilS).toArray = W2 at *
 have hZd : Z.dig.length = 32 := by rw [← hZ]; rfl
 replace hZ := Lib.hid hZ
 clear hA hR hO hB0 hs2 c0 c1 hb2 hi53 h1c
 obtain ⟨n, hn⟩ : ∃ n, w.heap.size = n := ⟨_, rfl⟩
 obtain ⟨n1, hn1⟩ : ∃ n1, n + 1 = n1 := ⟨_, rfl⟩
 obtain ⟨n2, hn2⟩ : ∃ n2, n + 2 = n2 := ⟨_, rfl⟩
 simp only [hn, hn1, hn2] at hA2 hR2 hO2 hB2 ⊢
 have hnn : n ≠ n1 ∧ n ≠ n2 ∧ n1 ≠ n2 ∧ n ≤ n1 ∧ n ≤ n2 := by omega
 replace hn := Lib.hid hn
 replace hn1 := Lib.hid hn1
 replace hn2 := Lib.hid hn2
 replace hnn := Lib.hid hnn
 have c0 := hA2.get ms_kind
 by_cases h3 : m.kind = 3
 · have b7 : W2.cell? ⟨n, 47, none⟩ = some (.slice x Nn cp) := hA2.get (ms_marks hm.dig)
   have d7 : W2.cell? ⟨n2, 47, none⟩ = some nilS := hO2.get (ms_marks hZd)
   have e7 := hO2.free 47
   have hO3 := hO2.put 47 (.slice x Nn cp)
   rw [set_marks _ _ _ hZd] at hO3
   have hR3 := hR2.far (b := n2) hnn.out.2.2.1 47 (.slice x Nn cp)
   have hB3 := below_set hB2 hnn.out.2.2.2.2 47 (.slice x Nn cp)
   go_upto_region 13 with fail
   generalize W2.setCell ⟨n2, 47, none⟩ (.slice x Nn cp) = W3 at hO3 hR3 hB3 ⊢
   have hf := Lib.hid (show msC (Z) (.slice x Nn cp) = msC (bareM m) vv by rw [← hvv.out]; rw [← hZ.out]; simp [bareM, h3]; rfl)
   have hi53 := Lib.hid (show (Try.prog.info? 42).map (·.size) = some (msC (Z) (.slice x Nn cp)).length by rw [msC_len (by exact hZd)]; kernel_rfl)
   have h1c := Lib.hid (show ∀ u ∈ msC (Z) (.slice x Nn cp), u.oneCell' = true from ms_one (by rfl))
   have hl53 := Lib.hid (show 0 + (msC (Z) (.slice x Nn cp)).length ≤ (msC z0 nilS).length by rw [msC_len (by exact hZd)]; decide)
   have hld := Lib.hid (show ∀ j u, (msC (Z) (.slice x Nn cp))[j]? = some u → W3.cell? ⟨n2, 0 + j, none⟩ = some u from fun j u hu => by rw [Nat.zero_add]; exact hO3.get hu)
   have hR4 : AtL (W3.setRow n1 (putL (msC z0 nilS) 0 (msC (Z) (.slice x Nn cp))).toArray) n1 42 (msC (Z) (.slice x Nn cp)) := by have := hR3.row (putL (msC z0 nilS) 0 (msC (Z) (.slice x Nn cp))); rw [put_all (by rw [msC_len (by exact hZd), msC_len z_ok.dig])] at this ⊢; exact this
   have hB4 := Lib.hid (below_row hB3 hnn.out.2.2.2.1 (putL (msC z0 nilS) 0 (msC (Z) (.slice x Nn cp))).toArray)
   replace hR4 := Lib.hid hR4
   replace hR3 := Lib.hid hR3
   clear hO3 hB3
   go_wp2_with (first | (refine wpList_load_part_w rfl 42 _ rfl n2 0 rfl (msC (Z) (.slice x Nn cp)) hld.out _ Try.underlying42 rfl hi53.out ?_) | (refine wpList_store_part rfl 42 _ _ rfl n1 0 (msC (Z) (.slice x Nn cp)) rfl rfl 42 (msC z0 nilS) hR3.out hi53.out hl53.out h1c.out ?_))
   refine bodyPost_ret (ret_array rfl rfl hR4.out _ Try.underlying42 rfl hi53.out) rfl ?_
   exact ⟨by rw [hf.out], by rw [← hn0.out, hn.out]; exact hB4.out⟩
 by_cases h5 : m.kind = 5
 · have hl := Lib.hid (show ∀ j u, (ocC m.oc)[j]? = some u → W2.cell? ⟨n, 50 + j, none⟩ = some u from fun j u hu => hA2.get (ms_oc hm.dig hu))
   have hO3 := hO2.row (putL (msC Z nilS) 50 (ocC m.oc))
   have hR3 := hR2.rowFar (b := n2) hnn.out.2.2.1 (putL (msC Z nilS) 50 (ocC m.oc)).toArray
   have hB3 := below_row hB2 hnn.out.2.2.2.2 (putL (msC Z nilS) 50 (ocC m.oc)).toArray
   have hlen := Lib.hid (show 50 + (ocC m.oc).length ≤ (msC Z nilS).length by rw [msC_len hZd]; simp [ocC])
   replace hO2 := Lib.hid hO2
   go_upto_region 13 with (first | (refine wpList_load_part_w rfl 40 _ rfl n 50 rfl (ocC m.oc) hl.out _ Try.underlying40 rfl (oc_size _) ?_) | (refine wpList_store_part rfl 40 _ _ rfl n2 50 (ocC m.oc) rfl rfl 42 (msC Z nilS) hO2.out (oc_size _) hlen.out (one_oc _) ?_))
   simp only [Act.put]
   generalize W2.setRow n2 (putL (msC Z nilS) 50 (ocC m.oc)).toArray = W3 at hO3 hR3 hB3 ⊢
   rw [set_oc _ _ _ hZd] at hO3
   have hf := Lib.hid (show msC ({ Z with oc := m.oc }) (nilS) = msC (bareM m) vv by rw [← hvv.out]; rw [← hZ.out]; simp [bareM, h5])
   have hi53 := Lib.hid (show (Try.prog.info? 42).map (·.size) = some (msC ({ Z with oc := m.oc }) (nilS)).length by rw [msC_len (by exact hZd)]; kernel_rfl)
   have h1c := Lib.hid (show ∀ u ∈ msC ({ Z with oc := m.oc }) (nilS), u.oneCell' = true from ms_one (by rfl))
   have hl53 := Lib.hid (show 0 + (msC ({ Z with oc := m.oc }) (nilS)).length ≤ (msC z0 nilS).length by rw [msC_len (by exact hZd)]; decide)
   have hld := Lib.hid (show ∀ j u, (msC ({ Z with oc := m.oc }) (nilS))[j]? = some u → W3.cell? ⟨n2, 0 + j, none⟩ = some u from fun j u hu => by rw [Nat.zero_add]; exact hO3.get hu)
   have hR4 : AtL (W3.setRow n1 (putL (msC z0 nilS) 0 (msC ({ Z with oc := m.oc }) (nilS))).toArray) n1 42 (msC ({ Z with oc := m.oc }) (nilS)) := by have := hR3.row (putL (msC z0 nilS) 0 (msC ({ Z with oc := m.oc }) (nilS))); rw [put_all (by rw [msC_len (by exact hZd), msC_len z_ok.dig])] at this ⊢; exact this
   have hB4 := Lib.hid (below_row hB3 hnn.out.2.2.2.1 (putL (msC z0 nilS) 0 (msC ({ Z with oc := m.oc }) (nilS))).toArray)
   replace hR4 := Lib.hid hR4
   replace hR3 := Lib.hid hR3
   clear hO3 hB3
   go_wp2_with (first | (refine wpList_load_part_w rfl 42 _ rfl n2 0 rfl (msC ({ Z with oc := m.oc }) (nilS)) hld.out _ Try.underlying42 rfl hi53.out ?_) | (refine wpList_store_part rfl 42 _ _ rfl n1 0 (msC ({ Z with oc := m.oc }) (nilS)) rfl rfl 42 (msC z0 nilS) hR3.out hi53.out hl53.out h1c.out ?_))
   refine bodyPost_ret (ret_array rfl rfl hR4.out _ Try.underlying42 rfl hi53.out) rfl ?_
   exact ⟨by rw [hf.out], by rw [← hn0.out, hn.out]; exact hB4.out⟩
 by_cases h1 : m.kind = 1
 · have hZ0 : ∀ ys, ZM (fun done => { Z with req := if done 7 = true then m.req else Z.req, rsv := if done 9 = true then m.rsv else Z.rsv }) n2 (fun _ => false) ys W2 := fun ys => by simpa [ZM] using hO2
   go_upto_region 4 with fail
   refine Sched.wp_region_sched 10 (fun W W' => But n2 W W') (Vv [some (.pointer (some ⟨n, 3, none⟩)), some (.int .i64 m.req), some (.pointer (some ⟨n, 4, none⟩)), some (.int .i64 m.rsv), some (.pointer (some ⟨n, 5, none⟩)), some (.agg (rqC m.rq).toArray), some (.pointer (some ⟨n2, 3, none⟩)), none, some (.pointer (some ⟨n2, 4, none⟩)), none]) (ZM (fun done => { Z with req := if done 7 = true then m.req else Z.req, rsv := if done 9 = true then m.rsv else Z.rsv }) n2) (by kernel_rfl) (by kernel_rfl) (by kernel_rfl) (fun h1 h2 => h1.trans h2) (fun h _ => h) ⟨rfl, rfl, rfl, Nat.le_refl _, fun _ _ _ => rfl⟩ (fun ys => hZ0 ys) (Sched.StepsA.steps (by kernel_rfl) ?hS1) ?hQ1
   case hS1 =>
    simp only [List.take_succ_cons, List.take_zero]
    refine ⟨?_, ?_, ?_, ?_, ?_, ?_, ?_, ?_, ?_, ?_, trivial⟩
    · intro ys done W aa hE hn hF hD hZ hG hO
      replace hE : But n2 W2 W := hE
      have o1 := hO 1 (by kernel_rfl)
      replace o1 : aa.tmps[1]? = some (.pointer (some ⟨n, 0, none⟩)) := o1
      go_wp2_with fail
      exact ⟨_, rfl, But.refl _ _, Vv.val rfl rfl, ZM.light hZ (by simp [Sched.mark])⟩
    · intro ys done W aa hE hn hF hD hZ hG hO
      replace hE : But n2 W2 W := hE
      have v0 := (hF 0 (by decide) (hD 0 (by kernel_rfl))).eq rfl
      have g0 := hG 0 13 rfl (Nat.le_of_ble_eq_true rfl)
      rw [v0] at g0
      have hAt : AtL W n 42 (msC m (.slice x Nn cp)) := hE.at hA2 hnn.out.2.1
      have pc := hAt.get ms_req
      go_wp2_with fail
      exact ⟨_, rfl, But.refl _ _, Vv.val rfl rfl, ZM.light hZ (by simp [Sched.mark])⟩
    · intro ys done W aa hE hn hF hD hZ hG hO
      replace hE : But n2 W2 W := hE
      have o1 := hO 1 (by kernel_rfl)
      replace o1 : aa.tmps[1]? = some (.pointer (some ⟨n, 0, none⟩)) := o1
      go_wp2_with fail
      exact ⟨_, rfl, But.refl _ _, Vv.val rfl rfl, ZM.light hZ (by simp [Sched.mark])⟩
    · intro ys done W aa hE hn hF hD hZ hG hO
      replace hE : But n2 W2 W := hE
      have v2 := (hF 2 (by decide) (hD 2 (by kernel_rfl))).eq rfl
      have g2 := hG 2 15 rfl (Nat.le_of_ble_eq_true rfl)
      rw [v2] at g2
      have hAt : AtL W n 42 (msC m (.slice x Nn cp)) := hE.at hA2 hnn.out.2.1
      have pc := hAt.get ms_rsv
      go_wp2_with fail
      exact ⟨_, rfl, But.refl _ _, Vv.val rfl rfl, ZM.light hZ (by simp [Sched.mark])⟩
    · intro ys done W aa hE hn hF hD hZ hG hO
      replace hE : But n2 W2 W := hE
      have o1 := hO 1 (by kernel_rfl)
      replace o1 : aa.tmps[1]? = some (.pointer (some ⟨n, 0, none⟩)) := o1
      go_wp2_with fail
      exact ⟨_, rfl, But.refl _ _, Vv.val rfl rfl, ZM.light hZ (by simp [Sched.mark])⟩
    · intro ys done W aa hE hn hF hD hZ hG hO
      replace hE : But n2 W2 W := hE
      have v4 := (hF 4 (by decide) (hD 4 (by kernel_rfl))).eq rfl
      have g4 := hG 4 17 rfl (Nat.le_of_ble_eq_true rfl)
      rw [v4] at g4
      have hAt : AtL W n 42 (msC m (.slice x Nn cp)) := hE.at hA2 hnn.out.2.1
      refine wpList_load_part_w rfl 35 _ rfl n 5 (show aa.tmps.getD 17 undef = .pointer (some ⟨n, 5, none⟩) by simp [g4]) (rqC m.rq) (fun j v hv => hAt.get (ms_rq hv)) _ Try.underlying35 rfl (rq_size _) ?_
      go_wp2_with fail
      exact ⟨_, rfl, But.refl _ _, Vv.val rfl rfl, ZM.light hZ (by simp [Sched.mark])⟩
    · intro ys done W aa hE hn hF hD hZ hG hO
      replace hE : But n2 W2 W := hE
      have o3 := hO 3 (by kernel_rfl)
      replace o3 : aa.tmps[3]? = some (.pointer (some ⟨n2, 0, none⟩)) := o3
      go_wp2_with fail
      exact ⟨_, rfl, But.refl _ _, Vv.val rfl rfl, ZM.light hZ (by simp [Sched.mark])⟩
    · intro ys done W aa hE hn hF hD hZ hG hO
      replace hE : But n2 W2 W := hE
      have v6 := (hF 6 (by decide) (hD 6 (by kernel_rfl))).eq rfl
      have g6 := hG 6 19 rfl (Nat.le_of_ble_eq_true rfl)
      rw [v6] at g6
      have v1 := (hF 1 (by decide) (hD 1 (by kernel_rfl))).eq rfl
      have g1 := hG 1 14 rfl (Nat.le_of_ble_eq_true rfl)
      rw [v1] at g1
      have hZc : AtL W n2 42 (msC ({ Z with req := if done 7 = true then m.req else Z.req, rsv := if done 9 = true then m.rsv else Z.rsv }) nilS) := hZ
      have cc := hZc.cell 3
      have ff := hZc.free 3
      have hnew := hZc.put 3 (.int .i64 m.req)
      obtain ⟨u, hu⟩ : ∃ u, (msC ({ Z with req := if done 7 = true then m.req else Z.req, rsv := if done 9 = true then m.rsv else Z.rsv }) nilS)[3]? = some u := ⟨_, List.getElem?_eq_getElem (by rw [msC_len (by exact hZd)]; decide)⟩
      rw [hu] at cc
      rw [set_req _ _ _] at hnew
      replace hnew := Lib.hid hnew
      clear hZc hu hZ hF hD hG hO
      go_wp2_with fail
      exact ⟨But.set _ _ _ _, undef, Vv.any rfl, by simpa [ZM, Sched.mark] using hnew.out⟩
    · intro ys done W aa hE hn hF hD hZ hG hO
      replace hE : But n2 W2 W := hE
      have o3 := hO 3 (by kernel_rfl)
      replace o3 : aa.tmps[3]? = some (.pointer (some ⟨n2, 0, none⟩)) := o3
      go_wp2_with fail
      exact ⟨_, rfl, But.refl _ _, Vv.val rfl rfl, ZM.light hZ (by simp [Sched.mark])⟩
    · intro ys done W aa hE hn hF hD hZ hG hO
      replace hE : But n2 W2 W := hE
      have v8 := (hF 8 (by decide) (hD 8 (by kernel_rfl))).eq rfl
      have g8 := hG 8 20 rfl (Nat.le_of_ble_eq_true rfl)
      rw [v8] at g8
      have v3 := (hF 3 (by decide) (hD 3 (by kernel_rfl))).eq rfl
      have g3 := hG 3 16 rfl (Nat.le_of_ble_eq_true rfl)
      rw [v3] at g3
      have hZc : AtL W n2 42 (msC ({ Z with req := if done 7 = true then m.req else Z.req, rsv := if done 9 = true then m.rsv else Z.rsv }) nilS) := hZ
      have cc := hZc.cell 4
      have ff := hZc.free 4
      have hnew := hZc.put 4 (.int .i64 m.rsv)
      obtain ⟨u, hu⟩ : ∃ u, (msC ({ Z with req := if done 7 = true then m.req else Z.req, rsv := if done 9 = true then m.rsv else Z.rsv }) nilS)[4]? = some u := ⟨_, List.getElem?_eq_getElem (by rw [msC_len (by exact hZd)]; decide)⟩
      rw [hu] at cc
      rw [set_rsv _ _ _] at hnew
      replace hnew := Lib.hid hnew
      clear hZc hu hZ hF hD hG hO
      go_wp2_with fail
      exact ⟨But.set _ _ _ _, undef, Vv.any rfl, by simpa [ZM, Sched.mark] using hnew.out⟩
   case hQ1 =>
    intro ys W4 hE hV hZ
    obtain ⟨done, hdn, hZz⟩ := hZ
    replace hE : But n2 W2 W4 := hE
    have hO4 : AtL W4 n2 42 (msC ({ Z with req := m.req, rsv := m.rsv }) nilS) := by
     have := hZz
     simpa [ZM, hdn 7 (by decide), hdn 9 (by decide)] using this
    have hR5 : AtL W4 n1 42 (msC z0 nilS) := hE.at hR2 hnn.out.2.2.1
    have hB5 : Below n w W4 := ⟨hE.os.trans hB2.os, hE.tape.trans hB2.tape, hE.output.trans hB2.output, Nat.le_trans hB2.size hE.size, fun k hk => (hE.block k (Nat.lt_of_lt_of_le hk (by have := hB2.size; have := hn.out; omega)) (by have := hnn.out; omega)).trans (hB2.block k hk)⟩
    have vv1 := (hV 1 (by decide)).eq rfl
    have vv3 := (hV 3 (by decide)).eq rfl
    have vv5 := (hV 5 (by decide)).eq rfl
    have hO3 := hO4.row (putL (msC ({ Z with req := m.req, rsv := m.rsv }) nilS) 5 (rqC m.rq))
    have hR3 := hR5.rowFar (b := n2) hnn.out.2.2.1 (putL (msC ({ Z with req := m.req, rsv := m.rsv }) nilS) 5 (rqC m.rq)).toArray
    have hB3 := below_row hB5 hnn.out.2.2.2.2 (putL (msC ({ Z with req := m.req, rsv := m.rsv }) nilS) 5 (rqC m.rq)).toArray
    have hlen := Lib.hid (show 5 + (rqC m.rq).length ≤ (msC ({ Z with req := m.req, rsv := m.rsv }) nilS).length by rw [msC_len (by exact hZd)]; simp [rqC])
    replace hO4 := Lib.hid hO4
    clear hE hV hdn hZz hZ0 hR5 hB5
    simp only [List.take_succ_cons, List.take_zero, List.drop_succ_cons, List.drop_zero, Sched.fill, Act.put, vv1, vv3, vv5]
    go_simp
    go_upto_region 13 with (refine wpList_store_part rfl 35 _ _ rfl n2 5 (rqC m.rq) rfl rfl 42 (msC ({ Z with req := m.req, rsv := m.rsv }) nilS) hO4.out (rq_size _) hlen.out (one_rq _) ?_)
    simp only [Act.put]
    generalize W4.setRow n2 (putL (msC ({ Z with req := m.req, rsv := m.rsv }) nilS) 5 (rqC m.rq)).toArray = W3 at hO3 hR3 hB3 ⊢
    rw [set_rq _ _ _] at hO3
    have hf := Lib.hid (show msC ({ Z with req := m.req, rsv := m.rsv, rq := m.rq }) (nilS) = msC (bareM m) vv by rw [← hvv.out]; rw [← hZ.out]; simp [bareM, h1])
    have hi53 := Lib.hid (show (Try.prog.info? 42).map (·.size) = some (msC ({ Z with req := m.req, rsv := m.rsv, rq := m.rq }) (nilS)).length by rw [msC_len (by exact hZd)]; kernel_rfl)
    have h1c := Lib.hid (show ∀ u ∈ msC ({ Z with req := m.req, rsv := m.rsv, rq := m.rq }) (nilS), u.oneCell' = true from ms_one (by rfl))
    have hl53 := Lib.hid (show 0 + (msC ({ Z with req := m.req, rsv := m.rsv, rq := m.rq }) (nilS)).length ≤ (msC z0 nilS).length by rw [msC_len (by exact hZd)]; decide)
    have hld := Lib.hid (show ∀ j u, (msC ({ Z with req := m.req, rsv := m.rsv, rq := m.rq }) (nilS))[j]? = some u → W3.cell? ⟨n2, 0 + j, none⟩ = some u from fun j u hu => by rw [Nat.zero_add]; exact hO3.get hu)
    have hR4 : AtL (W3.setRow n1 (putL (msC z0 nilS) 0 (msC ({ Z with req := m.req, rsv := m.rsv, rq := m.rq }) (nilS))).toArray) n1 42 (msC ({ Z with req := m.req, rsv := m.rsv, rq := m.rq }) (nilS)) := by have := hR3.row (putL (msC z0 nilS) 0 (msC ({ Z with req := m.req, rsv := m.rsv, rq := m.rq }) (nilS))); rw [put_all (by rw [msC_len (by exact hZd), msC_len z_ok.dig])] at this ⊢; exact this
    have hB4 := Lib.hid (below_row hB3 hnn.out.2.2.2.1 (putL (msC z0 nilS) 0 (msC ({ Z with req := m.req, rsv := m.rsv, rq := m.rq }) (nilS))).toArray)
    replace hR4 := Lib.hid hR4
    replace hR3 := Lib.hid hR3
    clear hO3 hB3
    go_wp2_with (first | (refine wpList_load_part_w rfl 42 _ rfl n2 0 rfl (msC ({ Z with req := m.req, rsv := m.rsv, rq := m.rq }) (nilS)) hld.out _ Try.underlying42 rfl hi53.out ?_) | (refine wpList_store_part rfl 42 _ _ rfl n1 0 (msC ({ Z with req := m.req, rsv := m.rsv, rq := m.rq }) (nilS)) rfl rfl 42 (msC z0 nilS) hR3.out hi53.out hl53.out h1c.out ?_))
    refine bodyPost_ret (ret_array rfl rfl hR4.out _ Try.underlying42 rfl hi53.out) rfl ?_
    exact ⟨by rw [hf.out], by rw [← hn0.out, hn.out]; exact hB4.out⟩
 by_cases h2 : m.kind = 2
 · have hZ0 : ∀ ys, ZM (fun done => { Z with car := if done 5 = true then m.car else Z.car }) n2 (fun _ => false) ys W2 := fun ys => by simpa [ZM] using hO2
   go_upto_region 6 with fail
   refine Sched.wp_region_sched 6 (fun W W' => But n2 W W') (Vv [some (.pointer (some ⟨n, 2, none⟩)), some (.int .i64 m.car), some (.pointer (some ⟨n, 15, none⟩)), some (.agg (m.dig.map u8V).toArray), some (.pointer (some ⟨n2, 2, none⟩)), none]) (ZM (fun done => { Z with car := if done 5 = true then m.car else Z.car }) n2) (by kernel_rfl) (by kernel_rfl) (by kernel_rfl) (fun h1 h2 => h1.trans h2) (fun h _ => h) ⟨rfl, rfl, rfl, Nat.le_refl _, fun _ _ _ => rfl⟩ (fun ys => hZ0 ys) (Sched.StepsA.steps (by kernel_rfl) ?hS2) ?hQ2
   case hS2 =>
    simp only [List.take_succ_cons, List.take_zero]
    refine ⟨?_, ?_, ?_, ?_, ?_, ?_, trivial⟩
    · intro ys done W aa hE hn hF hD hZ hG hO
      replace hE : But n2 W2 W := hE
      have o1 := hO 1 (by kernel_rfl)
      replace o1 : aa.tmps[1]? = some (.pointer (some ⟨n, 0, none⟩)) := o1
      go_wp2_with fail
      exact ⟨_, rfl, But.refl _ _, Vv.val rfl rfl, ZM.light hZ (by simp [Sched.mark])⟩
    · intro ys done W aa hE hn hF hD hZ hG hO
      replace hE : But n2 W2 W := hE
      have v0 := (hF 0 (by decide) (hD 0 (by kernel_rfl))).eq rfl
      have g0 := hG 0 24 rfl (Nat.le_of_ble_eq_true rfl)
      rw [v0] at g0
      have hAt : AtL W n 42 (msC m (.slice x Nn cp)) := hE.at hA2 hnn.out.2.1
      have pc := hAt.get ms_car
      go_wp2_with fail
      exact ⟨_, rfl, But.refl _ _, Vv.val rfl rfl, ZM.light hZ (by simp [Sched.mark])⟩
    · intro ys done W aa hE hn hF hD hZ hG hO
      replace hE : But n2 W2 W := hE
      have o1 := hO 1 (by kernel_rfl)
      replace o1 : aa.tmps[1]? = some (.pointer (some ⟨n, 0, none⟩)) := o1
      go_wp2_with fail
      exact ⟨_, rfl, But.refl _ _, Vv.val rfl rfl, ZM.light hZ (by simp [Sched.mark])⟩
    · intro ys done W aa hE hn hF hD hZ hG hO
      replace hE : But n2 W2 W := hE
      have v2 := (hF 2 (by decide) (hD 2 (by kernel_rfl))).eq rfl
      have g2 := hG 2 26 rfl (Nat.le_of_ble_eq_true rfl)
      rw [v2] at g2
      have hAt : AtL W n 42 (msC m (.slice x Nn cp)) := hE.at hA2 hnn.out.2.1
      refine wpList_load_part_w rfl 37 _ rfl n 15 (show aa.tmps.getD 26 undef = .pointer (some ⟨n, 15, none⟩) by simp [g2]) (m.dig.map u8V) (fun j v hv => hAt.get (ms_dig hv)) _ Try.underlying37 rfl (dig_size hm.dig) ?_
      go_wp2_with fail
      exact ⟨_, rfl, But.refl _ _, Vv.val rfl rfl, ZM.light hZ (by simp [Sched.mark])⟩
    · intro ys done W aa hE hn hF hD hZ hG hO
      replace hE : But n2 W2 W := hE
      have o3 := hO 3 (by kernel_rfl)
      replace o3 : aa.tmps[3]? = some (.pointer (some ⟨n2, 0, none⟩)) := o3
      go_wp2_with fail
      exact ⟨_, rfl, But.refl _ _, Vv.val rfl rfl, ZM.light hZ (by simp [Sched.mark])⟩
    · intro ys done W aa hE hn hF hD hZ hG hO
      replace hE : But n2 W2 W := hE
      have v4 := (hF 4 (by decide) (hD 4 (by kernel_rfl))).eq rfl
      have g4 := hG 4 28 rfl (Nat.le_of_ble_eq_true rfl)
      rw [v4] at g4
      have v1 := (hF 1 (by decide) (hD 1 (by kernel_rfl))).eq rfl
      have g1 := hG 1 25 rfl (Nat.le_of_ble_eq_true rfl)
      rw [v1] at g1
      have hZc : AtL W n2 42 (msC ({ Z with car := if done 5 = true then m.car else Z.car }) nilS) := hZ
      have cc := hZc.cell 2
      have ff := hZc.free 2
      have hnew := hZc.put 2 (.int .i64 m.car)
      obtain ⟨u, hu⟩ : ∃ u, (msC ({ Z with car := if done 5 = true then m.car else Z.car }) nilS)[2]? = some u := ⟨_, List.getElem?_eq_getElem (by rw [msC_len (by exact hZd)]; decide)⟩
      rw [hu] at cc
      rw [set_car _ _ _] at hnew
      replace hnew := Lib.hid hnew
      clear hZc hu hZ hF hD hG hO
      go_wp2_with fail
      exact ⟨But.set _ _ _ _, undef, Vv.any rfl, by simpa [ZM, Sched.mark] using hnew.out⟩
   case hQ2 =>
    intro ys W4 hE hV hZ
    obtain ⟨done, hdn, hZz⟩ := hZ
    replace hE : But n2 W2 W4 := hE
    have hO4 : AtL W4 n2 42 (msC ({ Z with car := m.car }) nilS) := by
     have := hZz
     simpa [ZM, hdn 5 (by decide)] using this
    have hR5 : AtL W4 n1 42 (msC z0 nilS) := hE.at hR2 hnn.out.2.2.1
    have hB5 : Below n w W4 := ⟨hE.os.trans hB2.os, hE.tape.trans hB2.tape, hE.output.trans hB2.output, Nat.le_trans hB2.size hE.size, fun k hk => (hE.block k (Nat.lt_of_lt_of_le hk (by have := hB2.size; have := hn.out; omega)) (by have := hnn.out; omega)).trans (hB2.block k hk)⟩
    have vv1 := (hV 1 (by decide)).eq rfl
    have vv3 := (hV 3 (by decide)).eq rfl
    have hO3 := hO4.row (putL (msC ({ Z with car := m.car }) nilS) 15 (m.dig.map u8V))
    have hR3 := hR5.rowFar (b := n2) hnn.out.2.2.1 (putL (msC ({ Z with car := m.car }) nilS) 15 (m.dig.map u8V)).toArray
    have hB3 := below_row hB5 hnn.out.2.2.2.2 (putL (msC ({ Z with car := m.car }) nilS) 15 (m.dig.map u8V)).toArray
    have hlen := Lib.hid (show 15 + (m.dig.map u8V).length ≤ (msC ({ Z with car := m.car }) nilS).length by rw [msC_len (by exact hZd)]; simp [hm.dig])
    replace hO4 := Lib.hid hO4
    clear hE hV hdn hZz hZ0 hR5 hB5
    simp only [List.take_succ_cons, List.take_zero, List.drop_succ_cons, List.drop_zero, Sched.fill, Act.put, vv1, vv3]
    go_simp
    go_upto_region 13 with (refine wpList_store_part rfl 37 _ _ rfl n2 15 (m.dig.map u8V) rfl rfl 42 (msC ({ Z with car := m.car }) nilS) hO4.out (dig_size hm.dig) hlen.out (one_dig _) ?_)
    simp only [Act.put]
    generalize W4.setRow n2 (putL (msC ({ Z with car := m.car }) nilS) 15 (m.dig.map u8V)).toArray = W3 at hO3 hR3 hB3 ⊢
    rw [set_dig _ _ _ (by exact hZd) hm.dig] at hO3
    have hf := Lib.hid (show msC ({ Z with car := m.car, dig := m.dig }) (nilS) = msC (bareM m) vv by rw [← hvv.out]; rw [← hZ.out]; simp [bareM, h2])
    have hi53 := Lib.hid (show (Try.prog.info? 42).map (·.size) = some (msC ({ Z with car := m.car, dig := m.dig }) (nilS)).length by rw [msC_len (by exact hm.dig)]; kernel_rfl)
    have h1c := Lib.hid (show ∀ u ∈ msC ({ Z with car := m.car, dig := m.dig }) (nilS), u.oneCell' = true from ms_one (by rfl))
    have hl53 := Lib.hid (show 0 + (msC ({ Z with car := m.car, dig := m.dig }) (nilS)).length ≤ (msC z0 nilS).length by rw [msC_len (by exact hm.dig)]; decide)
    have hld := Lib.hid (show ∀ j u, (msC ({ Z with car := m.car, dig := m.dig }) (nilS))[j]? = some u → W3.cell? ⟨n2, 0 + j, none⟩ = some u from fun j u hu => by rw [Nat.zero_add]; exact hO3.get hu)
    have hR4 : AtL (W3.setRow n1 (putL (msC z0 nilS) 0 (msC ({ Z with car := m.car, dig := m.dig }) (nilS))).toArray) n1 42 (msC ({ Z with car := m.car, dig := m.dig }) (nilS)) := by have := hR3.row (putL (msC z0 nilS) 0 (msC ({ Z with car := m.car, dig := m.dig }) (nilS))); rw [put_all (by rw [msC_len (by exact hm.dig), msC_len z_ok.dig])] at this ⊢; exact this
    have hB4 := Lib.hid (below_row hB3 hnn.out.2.2.2.1 (putL (msC z0 nilS) 0 (msC ({ Z with car := m.car, dig := m.dig }) (nilS))).toArray)
    replace hR4 := Lib.hid hR4
    replace hR3 := Lib.hid hR3
    clear hO3 hB3
    go_wp2_with (first | (refine wpList_load_part_w rfl 42 _ rfl n2 0 rfl (msC ({ Z with car := m.car, dig := m.dig }) (nilS)) hld.out _ Try.underlying42 rfl hi53.out ?_) | (refine wpList_store_part rfl 42 _ _ rfl n1 0 (msC ({ Z with car := m.car, dig := m.dig }) (nilS)) rfl rfl 42 (msC z0 nilS) hR3.out hi53.out hl53.out h1c.out ?_))
    refine bodyPost_ret (ret_array rfl rfl hR4.out _ Try.underlying42 rfl hi53.out) rfl ?_
    exact ⟨by rw [hf.out], by rw [← hn0.out, hn.out]; exact hB4.out⟩
 by_cases h4 : m.kind = 4
 · have hZ0 : ∀ ys, ZM (fun done => { Z with car := if done 7 = true then m.car else Z.car, bid := if done 9 = true then m.bid else Z.bid }) n2 (fun _ => false) ys W2 := fun ys => by simpa [ZM] using hO2
   go_upto_region 10 with fail
   refine Sched.wp_region_sched 10 (fun W W' => But n2 W W') (Vv [some (.pointer (some ⟨n, 2, none⟩)), some (.int .i64 m.car), some (.pointer (some ⟨n, 48, none⟩)), some (.int .u64 (m.bid : Int)), some (.pointer (some ⟨n, 49, none⟩)), some (.int .u64 (m.nonce : Int)), some (.pointer (some ⟨n2, 2, none⟩)), none, some (.pointer (some ⟨n2, 48, none⟩)), none]) (ZM (fun done => { Z with car := if done 7 = true then m.car else Z.car, bid := if done 9 = true then m.bid else Z.bid }) n2) (by kernel_rfl) (by kernel_rfl) (by kernel_rfl) (fun h1 h2 => h1.trans h2) (fun h _ => h) ⟨rfl, rfl, rfl, Nat.le_refl _, fun _ _ _ => rfl⟩ (fun ys => hZ0 ys) (Sched.StepsA.steps (by kernel_rfl) ?hS4) ?hQ4
   case hS4 =>
    simp only [List.take_succ_cons, List.take_zero]
    refine ⟨?_, ?_, ?_, ?_, ?_, ?_, ?_, ?_, ?_, ?_, trivial⟩
    · intro ys done W aa hE hn hF hD hZ hG hO
      replace hE : But n2 W2 W := hE
      have o1 := hO 1 (by kernel_rfl)
      replace o1 : aa.tmps[1]? = some (.pointer (some ⟨n, 0, none⟩)) := o1
      go_wp2_with fail
      exact ⟨_, rfl, But.refl _ _, Vv.val rfl rfl, ZM.light hZ (by simp [Sched.mark])⟩
    · intro ys done W aa hE hn hF hD hZ hG hO
      replace hE : But n2 W2 W := hE
      have v0 := (hF 0 (by decide) (hD 0 (by kernel_rfl))).eq rfl
      have g0 := hG 0 37 rfl (Nat.le_of_ble_eq_true rfl)
      rw [v0] at g0
      have hAt : AtL W n 42 (msC m (.slice x Nn cp)) := hE.at hA2 hnn.out.2.1
      have pc := hAt.get ms_car
      go_wp2_with fail
      exact ⟨_, rfl, But.refl _ _, Vv.val rfl rfl, ZM.light hZ (by simp [Sched.mark])⟩
    · intro ys done W aa hE hn hF hD hZ hG hO
      replace hE : But n2 W2 W := hE
      have o1 := hO 1 (by kernel_rfl)
      replace o1 : aa.tmps[1]? = some (.pointer (some ⟨n, 0, none⟩)) := o1
      go_wp2_with fail
      exact ⟨_, rfl, But.refl _ _, Vv.val rfl rfl, ZM.light hZ (by simp [Sched.mark])⟩
    · intro ys done W aa hE hn hF hD hZ hG hO
      replace hE : But n2 W2 W := hE
      have v2 := (hF 2 (by decide) (hD 2 (by kernel_rfl))).eq rfl
      have g2 := hG 2 39 rfl (Nat.le_of_ble_eq_true rfl)
      rw [v2] at g2
      have hAt : AtL W n 42 (msC m (.slice x Nn cp)) := hE.at hA2 hnn.out.2.1
      have pc := hAt.get (ms_bid hm.dig)
      go_wp2_with fail
      exact ⟨_, rfl, But.refl _ _, Vv.val rfl rfl, ZM.light hZ (by simp [Sched.mark])⟩
    · intro ys done W aa hE hn hF hD hZ hG hO
      replace hE : But n2 W2 W := hE
      have o1 := hO 1 (by kernel_rfl)
      replace o1 : aa.tmps[1]? = some (.pointer (some ⟨n, 0, none⟩)) := o1
      go_wp2_with fail
      exact ⟨_, rfl, But.refl _ _, Vv.val rfl rfl, ZM.light hZ (by simp [Sched.mark])⟩
    · intro ys done W aa hE hn hF hD hZ hG hO
      replace hE : But n2 W2 W := hE
      have v4 := (hF 4 (by decide) (hD 4 (by kernel_rfl))).eq rfl
      have g4 := hG 4 41 rfl (Nat.le_of_ble_eq_true rfl)
      rw [v4] at g4
      have hAt : AtL W n 42 (msC m (.slice x Nn cp)) := hE.at hA2 hnn.out.2.1
      have pc := hAt.get (ms_nonce hm.dig)
      go_wp2_with fail
      exact ⟨_, rfl, But.refl _ _, Vv.val rfl rfl, ZM.light hZ (by simp [Sched.mark])⟩
    · intro ys done W aa hE hn hF hD hZ hG hO
      replace hE : But n2 W2 W := hE
      have o3 := hO 3 (by kernel_rfl)
      replace o3 : aa.tmps[3]? = some (.pointer (some ⟨n2, 0, none⟩)) := o3
      go_wp2_with fail
      exact ⟨_, rfl, But.refl _ _, Vv.val rfl rfl, ZM.light hZ (by simp [Sched.mark])⟩
    · intro ys done W aa hE hn hF hD hZ hG hO
      replace hE : But n2 W2 W := hE
      have v6 := (hF 6 (by decide) (hD 6 (by kernel_rfl))).eq rfl
      have g6 := hG 6 43 rfl (Nat.le_of_ble_eq_true rfl)
      rw [v6] at g6
      have v1 := (hF 1 (by decide) (hD 1 (by kernel_rfl))).eq rfl
      have g1 := hG 1 38 rfl (Nat.le_of_ble_eq_true rfl)
      rw [v1] at g1
      have hZc : AtL W n2 42 (msC ({ Z with car := if done 7 = true then m.car else Z.car, bid := if done 9 = true then m.bid else Z.bid }) nilS) := hZ
      have cc := hZc.cell 2
      have ff := hZc.free 2
      have hnew := hZc.put 2 (.int .i64 m.car)
      obtain ⟨u, hu⟩ : ∃ u, (msC ({ Z with car := if done 7 = true then m.car else Z.car, bid := if done 9 = true then m.bid else Z.bid }) nilS)[2]? = some u := ⟨_, List.getElem?_eq_getElem (by rw [msC_len (by exact hZd)]; decide)⟩
      rw [hu] at cc
      rw [set_car _ _ _] at hnew
      replace hnew := Lib.hid hnew
      clear hZc hu hZ hF hD hG hO
      go_wp2_with fail
      exact ⟨But.set _ _ _ _, undef, Vv.any rfl, by simpa [ZM, Sched.mark] using hnew.out⟩
    · intro ys done W aa hE hn hF hD hZ hG hO
      replace hE : But n2 W2 W := hE
      have o3 := hO 3 (by kernel_rfl)
      replace o3 : aa.tmps[3]? = some (.pointer (some ⟨n2, 0, none⟩)) := o3
      go_wp2_with fail
      exact ⟨_, rfl, But.refl _ _, Vv.val rfl rfl, ZM.light hZ (by simp [Sched.mark])⟩
    · intro ys done W aa hE hn hF hD hZ hG hO
      replace hE : But n2 W2 W := hE
      have v8 := (hF 8 (by decide) (hD 8 (by kernel_rfl))).eq rfl
      have g8 := hG 8 44 rfl (Nat.le_of_ble_eq_true rfl)
      rw [v8] at g8
      have v3 := (hF 3 (by decide) (hD 3 (by kernel_rfl))).eq rfl
      have g3 := hG 3 40 rfl (Nat.le_of_ble_eq_true rfl)
      rw [v3] at g3
      have hZc : AtL W n2 42 (msC ({ Z with car := if done 7 = true then m.car else Z.car, bid := if done 9 = true then m.bid else Z.bid }) nilS) := hZ
      have cc := hZc.cell 48
      have ff := hZc.free 48
      have hnew := hZc.put 48 (.int .u64 (m.bid : Int))
      obtain ⟨u, hu⟩ : ∃ u, (msC ({ Z with car := if done 7 = true then m.car else Z.car, bid := if done 9 = true then m.bid else Z.bid }) nilS)[48]? = some u := ⟨_, List.getElem?_eq_getElem (by rw [msC_len (by exact hZd)]; decide)⟩
      rw [hu] at cc
      rw [set_bid _ _ _ (by exact hZd)] at hnew
      replace hnew := Lib.hid hnew
      clear hZc hu hZ hF hD hG hO
      go_wp2_with fail
      exact ⟨But.set _ _ _ _, undef, Vv.any rfl, by simpa [ZM, Sched.mark] using hnew.out⟩
   case hQ4 =>
    intro ys W4 hE hV hZ
    obtain ⟨done, hdn, hZz⟩ := hZ
    replace hE : But n2 W2 W4 := hE
    have hO4 : AtL W4 n2 42 (msC ({ Z with car := m.car, bid := m.bid }) nilS) := by
     have := hZz
     simpa [ZM, hdn 7 (by decide), hdn 9 (by decide)] using this
    have hR5 : AtL W4 n1 42 (msC z0 nilS) := hE.at hR2 hnn.out.2.2.1
    have hB5 : Below n w W4 := ⟨hE.os.trans hB2.os, hE.tape.trans hB2.tape, hE.output.trans hB2.output, Nat.le_trans hB2.size hE.size, fun k hk => (hE.block k (Nat.lt_of_lt_of_le hk (by have := hB2.size; have := hn.out; omega)) (by have := hnn.out; omega)).trans (hB2.block k hk)⟩
    have vv1 := (hV 1 (by decide)).eq rfl
    have vv3 := (hV 3 (by decide)).eq rfl
    have vv5 := (hV 5 (by decide)).eq rfl
    have hO3 := hO4.put 49 (.int .u64 (m.nonce : Int))
    rw [set_nonce _ _ _ (by exact hZd)] at hO3
    have hR3 := hR5.far (b := n2) hnn.out.2.2.1 49 (.int .u64 (m.nonce : Int))
    have hB3 := below_set hB5 hnn.out.2.2.2.2 49 (.int .u64 (m.nonce : Int))
    have cc := hO4.cell 49
    obtain ⟨u, hu⟩ : ∃ u, (msC ({ Z with car := m.car, bid := m.bid }) nilS)[49]? = some u := ⟨_, List.getElem?_eq_getElem (by rw [msC_len (by exact hZd)]; decide)⟩
    rw [hu] at cc
    have ff := hO4.free 49
    clear hE hV hdn hZz hZ0 hR5 hB5 hO4 hu
    simp only [List.take_succ_cons, List.take_zero, List.drop_succ_cons, List.drop_zero, Sched.fill, Act.put, vv1, vv3, vv5]
    go_simp
    go_upto_region 13 with fail
    generalize W4.setCell ⟨n2, 49, none⟩ (.int .u64 (m.nonce : Int)) = W3 at hO3 hR3 hB3 ⊢
    have hf := Lib.hid (show msC ({ Z with car := m.car, bid := m.bid, nonce := m.nonce }) (nilS) = msC (bareM m) vv by rw [← hvv.out]; rw [← hZ.out]; simp [bareM, h4])
    have hi53 := Lib.hid (show (Try.prog.info? 42).map (·.size) = some (msC ({ Z with car := m.car, bid := m.bid, nonce := m.nonce }) (nilS)).length by rw [msC_len (by exact hZd)]; kernel_rfl)
    have h1c := Lib.hid (show ∀ u ∈ msC ({ Z with car := m.car, bid := m.bid, nonce := m.nonce }) (nilS), u.oneCell' = true from ms_one (by rfl))
    have hl53 := Lib.hid (show 0 + (msC ({ Z with car := m.car, bid := m.bid, nonce := m.nonce }) (nilS)).length ≤ (msC z0 nilS).length by rw [msC_len (by exact hZd)]; decide)
    have hld := Lib.hid (show ∀ j u, (msC ({ Z with car := m.car, bid := m.bid, nonce := m.nonce }) (nilS))[j]? = some u → W3.cell? ⟨n2, 0 + j, none⟩ = some u from fun j u hu => by rw [Nat.zero_add]; exact hO3.get hu)
    have hR4 : AtL (W3.setRow n1 (putL (msC z0 nilS) 0 (msC ({ Z with car := m.car, bid := m.bid, nonce := m.nonce }) (nilS))).toArray) n1 42 (msC ({ Z with car := m.car, bid := m.bid, nonce := m.nonce }) (nilS)) := by have := hR3.row (putL (msC z0 nilS) 0 (msC ({ Z with car := m.car, bid := m.bid, nonce := m.nonce }) (nilS))); rw [put_all (by rw [msC_len (by exact hZd), msC_len z_ok.dig])] at this ⊢; exact this
    have hB4 := Lib.hid (below_row hB3 hnn.out.2.2.2.1 (putL (msC z0 nilS) 0 (msC ({ Z with car := m.car, bid := m.bid, nonce := m.nonce }) (nilS))).toArray)
    replace hR4 := Lib.hid hR4
    replace hR3 := Lib.hid hR3
    clear hO3 hB3
    go_wp2_with (first | (refine wpList_load_part_w rfl 42 _ rfl n2 0 rfl (msC ({ Z with car := m.car, bid := m.bid, nonce := m.nonce }) (nilS)) hld.out _ Try.underlying42 rfl hi53.out ?_) | (refine wpList_store_part rfl 42 _ _ rfl n1 0 (msC ({ Z with car := m.car, bid := m.bid, nonce := m.nonce }) (nilS)) rfl rfl 42 (msC z0 nilS) hR3.out hi53.out hl53.out h1c.out ?_))
    refine bodyPost_ret (ret_array rfl rfl hR4.out _ Try.underlying42 rfl hi53.out) rfl ?_
    exact ⟨by rw [hf.out], by rw [← hn0.out, hn.out]; exact hB4.out⟩
 have hO3 := hO2
 have hR3 := hR2
 have hB3 := hB2
 go_upto_region 13 with fail
 generalize W2 = W3 at hO3 hR3 hB3 ⊢
 have hf := Lib.hid (show msC (Z) (nilS) = msC (bareM m) vv by rw [← hvv.out]; rw [← hZ.out]; simp [bareM, h1, h2, h3, h4, h5])
 have hi53 := Lib.hid (show (Try.prog.info? 42).map (·.size) = some (msC (Z) (nilS)).length by rw [msC_len (by exact hZd)]; kernel_rfl)
 have h1c := Lib.hid (show ∀ u ∈ msC (Z) (nilS), u.oneCell' = true from ms_one (by rfl))
 have hl53 := Lib.hid (show 0 + (msC (Z) (nilS)).length ≤ (msC z0 nilS).length by rw [msC_len (by exact hZd)]; decide)
 have hld := Lib.hid (show ∀ j u, (msC (Z) (nilS))[j]? = some u → W3.cell? ⟨n2, 0 + j, none⟩ = some u from fun j u hu => by rw [Nat.zero_add]; exact hO3.get hu)
 have hR4 : AtL (W3.setRow n1 (putL (msC z0 nilS) 0 (msC (Z) (nilS))).toArray) n1 42 (msC (Z) (nilS)) := by have := hR3.row (putL (msC z0 nilS) 0 (msC (Z) (nilS))); rw [put_all (by rw [msC_len (by exact hZd), msC_len z_ok.dig])] at this ⊢; exact this
 have hB4 := Lib.hid (below_row hB3 hnn.out.2.2.2.1 (putL (msC z0 nilS) 0 (msC (Z) (nilS))).toArray)
 replace hR4 := Lib.hid hR4
 replace hR3 := Lib.hid hR3
 clear hO3 hB3
 go_wp2_with (first | (refine wpList_load_part_w rfl 42 _ rfl n2 0 rfl (msC (Z) (nilS)) hld.out _ Try.underlying42 rfl hi53.out ?_) | (refine wpList_store_part rfl 42 _ _ rfl n1 0 (msC (Z) (nilS)) rfl rfl 42 (msC z0 nilS) hR3.out hi53.out hl53.out h1c.out ?_))
 refine bodyPost_ret (ret_array rfl rfl hR4.out _ Try.underlying42 rfl hi53.out) rfl ?_
 exact ⟨by rw [hf.out], by rw [← hn0.out, hn.out]; exact hB4.out⟩
end Go.Proofs.Ytpefdmkfmcjfnaa.Ms

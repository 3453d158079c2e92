import Derived.Test.YtpefdmkfmcjfnaaPkDfDig
import Derived.Test.YtpefdmkfmcjfnaaPkMsPDec2

namespace Go.Proofs.Ytpefdmkfmcjfnaa.Df
open Go.RowKit Go.Sort Go.Proofs.Ytpefdmkfmcjfnaa.Mem Go.Proofs.Ytpefdmkfmcjfnaa.Route Go.Proofs.Ytpefdmkfmcjfnaa.Oct Go.Proofs.Ytpefdmkfmcjfnaa.Ms Go.Proofs.Ytpefdmkfmcjfnaa.Part Go.Proofs.Ytpefdmkfmcjfnaa.Mp
set_option linter.unusedVariables false
def turnM (m : Ms) (k : Nat) (n : Int) : Ms := match k with
 | 0 => { m with kind := n }
 | 1 => { m with rnd := n }
 | 2 => { m with car := n }
 | 3 => { m with req := n }
 | 4 => { m with rsv := n }
 | 5 => { m with rq := { m.rq with fx := n } }
 | 6 => { m with rq := { m.rq with pl := n } }
 | 7 => { m with rq := { m.rq with ld := n } }
 | 8 => { m with rq := { m.rq with sv := n } }
 | 9 => { m with dig := m.dig.set 0 (UInt8.ofNat (n % 256).toNat) }
 | 10 => { m with marks := m.marks ++ [(n, zD)] }
 | 11 => { m with bid := (n % 18446744073709551616).toNat }
 | 12 => { m with nonce := (n % 18446744073709551616).toNat }
 | 13 => { m with oc := { m.oc with st := n } }
 | 14 => { m with oc := { m.oc with wn := n } }
 | _ => { m with oc := { m.oc with pr := (n % 18446744073709551616).toNat } }
theorem set_d0 (m : Ms) (v : Value) (n : Int) (h : m.dig.length = 32) : (msC m v).set 15 (.int .u8 (n % 256)) = msC { m with dig := m.dig.set 0 (UInt8.ofNat (n % 256).toNat) } v := by
 obtain ⟨d, ds, e⟩ : ∃ d ds, m.dig = d :: ds := by
  match hm : m.dig with
  | [] => rw [hm] at h; cases h
  | d :: ds => exact ⟨d, ds, rfl⟩
 have hb : Value.int .u8 (n % 256) = u8V (UInt8.ofNat (n % 256).toNat) := by
  rw [u8V, UInt8.toNat_ofNat', Nat.mod_eq_of_lt (by omega), Int.toNat_of_nonneg (by omega)]
 rw [hb]
 unfold msC
 rw [e]
 rfl
theorem set_bidI (m : Ms) (v : Value) (n : Int) (h : m.dig.length = 32) : (msC m v).set 48 (.int .u64 (n % 18446744073709551616)) = msC { m with bid := (n % 18446744073709551616).toNat } v := by
 have := set_bid m v (n % 18446744073709551616).toNat h
 rwa [Int.toNat_of_nonneg (by omega)] at this
theorem set_nonceI (m : Ms) (v : Value) (n : Int) (h : m.dig.length = 32) : (msC m v).set 49 (.int .u64 (n % 18446744073709551616)) = msC { m with nonce := (n % 18446744073709551616).toNat } v := by
 have := set_nonce m v (n % 18446744073709551616).toNat h
 rwa [Int.toNat_of_nonneg (by omega)] at this
theorem set_st (m : Ms) (v : Value) (n : Int) (h : m.dig.length = 32) : (msC m v).set 50 (.int .i64 n) = msC { m with oc := { m.oc with st := n } } v := by
 rw [ms_hd, ms_hd, List.set_append_right 50 _ (by rw [hd_len h]; omega), hd_len h]
 rfl
theorem set_wn (m : Ms) (v : Value) (n : Int) (h : m.dig.length = 32) : (msC m v).set 51 (.int .i64 n) = msC { m with oc := { m.oc with wn := n } } v := by
 rw [ms_hd, ms_hd, List.set_append_right 51 _ (by rw [hd_len h]; omega), hd_len h]
 rfl
theorem set_prI (m : Ms) (v : Value) (n : Int) (h : m.dig.length = 32) : (msC m v).set 52 (.int .u64 (n % 18446744073709551616)) = msC { m with oc := { m.oc with pr := (n % 18446744073709551616).toNat } } v := by
 have e : n % 18446744073709551616 = ((n % 18446744073709551616).toNat : Int) := (Int.toNat_of_nonneg (by omega)).symm
 rw [ms_hd, ms_hd, List.set_append_right 52 _ (by rw [hd_len h]; omega), hd_len h, e]
 simp [hdC, ocC]
theorem turn_ok {m : Ms} (h : m.ok) (hw : m.wide) (k : Nat) (n : Int) : (turnM m k n).ok ∧ (turnM m k n).wide := by
 obtain ⟨h1, h2⟩ := h
 obtain ⟨w1, w2, w3⟩ := hw
 unfold turnM
 split
 all_goals first
  | exact ⟨⟨h1, h2⟩, ⟨w1, w2, w3⟩⟩
  | exact ⟨⟨by rw [List.length_set]; exact h1, h2⟩, ⟨w1, w2, w3⟩⟩
  | exact ⟨⟨h1, fun p hp => by
   rcases List.mem_append.1 hp with hp | hp
   · exact h2 p hp
   · rw [List.mem_singleton] at hp
     subst hp
     rfl⟩, ⟨w1, w2, w3⟩⟩
  | exact ⟨⟨h1, h2⟩, ⟨by show (n % 18446744073709551616).toNat < 18446744073709551616; omega, w2, w3⟩⟩
  | exact ⟨⟨h1, h2⟩, ⟨w1, by show (n % 18446744073709551616).toNat < 18446744073709551616; omega, w3⟩⟩
  | exact ⟨⟨h1, h2⟩, ⟨w1, w2, by show (n % 18446744073709551616).toNat < 18446744073709551616; omega⟩⟩
set_option maxRecDepth 100000 in
set_option maxHeartbeats 8000000 in
theorem turn0 (m : Ms) (x : Option Addr) (N cap : Nat) (hm : m.ok) (a : Nat) (ha : a % 16 = 0) (n : Int) (hn : I64 n) (w : World) (hM : MarksAt w.heap.size w (.slice x N cap) m.marks) :
 Calls Try.prog 12 #[.agg (msC m (.slice x N cap)).toArray, .int .u8 (a : Int), .int .i64 n] w fun e w' => ∃ x' N' c', e = .returned (.agg (msC (turnM m 0 n) (.slice x' N' c')).toArray) ∧ MarksAt w'.heap.size w' (.slice x' N' c') (turnM m 0 n).marks ∧ Below w.heap.size w w' := by
 obtain ⟨g, hg⟩ : ∃ g, w.heap.size = g := ⟨_, rfl⟩
 have hA : AtL ((w.alloc (.cells (msC m (.slice x N cap)).toArray 42)).alloc (.cells (msC z0 nilS).toArray 42)) g 42 (msC m (.slice x N cap)) := by rw [← hg]; exact (AtL.new w _ _).alloc _
 have hR : AtL ((w.alloc (.cells (msC m (.slice x N cap)).toArray 42)).alloc (.cells (msC z0 nilS).toArray 42)) (g + 1) 42 (msC z0 nilS) := by
  have := AtL.new (w.alloc (.cells (msC m (.slice x N cap)).toArray 42)) 42 (msC z0 nilS)
  rwa [World.size_alloc, hg] at this
 have hB : Below g w ((w.alloc (.cells (msC m (.slice x N cap)).toArray 42)).alloc (.cells (msC z0 nilS).toArray 42)) := ((Below.refl _ _).alloc (Nat.le_of_eq hg.symm) _).alloc (by rw [World.size_alloc]; omega) _
 rw [show Below w.heap.size w = Below g w by rw [hg]]
 have hd := hm.dig
 have hk : (a : Int) % 16 = 0 := by omega
 rw [hg] at hM
 replace hg := Lib.hid hg
 replace hA := Lib.hid hA
 replace hB := Lib.hid hB
 replace hR := Lib.hid hR
 replace hM := Lib.hid hM
 go_enter Try.func12, Try.ntmps12
 go_upto_region 1 with fail
 try rw [z0_lit]
 try simp only [hg.out]
 generalize (w.alloc (.cells (msC m (.slice x N cap)).toArray 42)).alloc (.cells (msC z0 nilS).toArray 42) = w1 at hA hB hR ⊢
 obtain ⟨y, hy⟩ : ∃ y, (msC m (.slice x N cap))[0]? = some y := ⟨_, List.getElem?_eq_getElem (by rw [msC_len hd]; decide)⟩
 have cc := hA.out.get hy
 have ff := hA.out.free 0
 have hA2 := hA.out.put 0 (.int .i64 n)
 have hA3 := Lib.hid (atL_eq hA2 (show _ = msC (turnM m 0 n) (.slice x N cap) from rfl))
 have hR3 := Lib.hid (hR.out.far (b := g) (by omega) 0 (.int .i64 n))
 have hB3 := hB.out.setCell (p := ⟨g, 0, none⟩) (Nat.le_refl _) (.int .i64 n)
 have htd : (turnM m 0 n).dig.length = 32 := by first | exact hd | (show (m.dig.set 0 _).length = 32; rw [List.length_set]; exact hd)
 have hO := hR3.out.row (putL (msC z0 nilS) 0 (msC (turnM m 0 n) (.slice x N cap)))
 have hO3 := Lib.hid (atL_eq hO (put_msg z0d htd))
 have hB4 := below_row hB3 (g := g + 1) (Nat.le_succ g) (putL (msC z0 nilS) 0 (msC (turnM m 0 n) (.slice x N cap))).toArray
 have hM4 := Lib.hid (RowB.more (RowB.keep hM.out hB4 (Nat.le_refl _)) (Nat.le_of_lt (Nat.lt_trans (Nat.lt_succ_self g) hO.inside)))
 replace hB4 := Lib.hid hB4
 have htm : (turnM m 0 n).marks = m.marks := rfl
 have hld := Lib.hid (fun j u (hu : (msC (turnM m 0 n) (.slice x N cap))[j]? = some u) => (show (w1.setCell ⟨g, 0, none⟩ (.int .i64 n)).cell? ⟨g, 0 + j, none⟩ = some u by rw [Nat.zero_add]; exact hA3.out.get hu))
 obtain ⟨m', hm'⟩ : ∃ m', turnM m 0 n = m' := ⟨_, rfl⟩
 simp only [hm'] at hld htd hO3 hB4 hM4 htm
 replace hm' := Lib.hid hm'
 clear hA hB hR hM hA2 hA3 hB3 hO
 go_wp2_with (first | (refine wpList_load_part rfl 42 _ rfl g 0 rfl (msC m' (.slice x N cap)) hld.out _ Try.underlying42 rfl (size_msg htd) ?_) | (refine wpList_store_part rfl 42 _ _ rfl (g + 1) 0 (msC m' (.slice x N cap)) rfl rfl 42 (msC z0 nilS) hR3.out (size_msg htd) (less_msg z0d htd) (ms_one rfl) ?_))
 refine bodyPost_ret (ret_array rfl rfl hO3.out _ Try.underlying42 rfl (size_msg htd)) rfl ?_
 exact ⟨x, N, cap, by rw [hm'.out], by rw [hm'.out, htm]; exact hM4.out, hB4.out⟩
set_option maxRecDepth 100000 in
set_option maxHeartbeats 8000000 in
theorem turn1 (m : Ms) (x : Option Addr) (N cap : Nat) (hm : m.ok) (a : Nat) (ha : a % 16 = 1) (n : Int) (hn : I64 n) (w : World) (hM : MarksAt w.heap.size w (.slice x N cap) m.marks) :
 Calls Try.prog 12 #[.agg (msC m (.slice x N cap)).toArray, .int .u8 (a : Int), .int .i64 n] w fun e w' => ∃ x' N' c', e = .returned (.agg (msC (turnM m 1 n) (.slice x' N' c')).toArray) ∧ MarksAt w'.heap.size w' (.slice x' N' c') (turnM m 1 n).marks ∧ Below w.heap.size w w' := by
 obtain ⟨g, hg⟩ : ∃ g, w.heap.size = g := ⟨_, rfl⟩
 have hA : AtL ((w.alloc (.cells (msC m (.slice x N cap)).toArray 42)).alloc (.cells (msC z0 nilS).toArray 42)) g 42 (msC m (.slice x N cap)) := by rw [← hg]; exact (AtL.new w _ _).alloc _
 have hR : AtL ((w.alloc (.cells (msC m (.slice x N cap)).toArray 42)).alloc (.cells (msC z0 nilS).toArray 42)) (g + 1) 42 (msC z0 nilS) := by
  have := AtL.new (w.alloc (.cells (msC m (.slice x N cap)).toArray 42)) 42 (msC z0 nilS)
  rwa [World.size_alloc, hg] at this
 have hB : Below g w ((w.alloc (.cells (msC m (.slice x N cap)).toArray 42)).alloc (.cells (msC z0 nilS).toArray 42)) := ((Below.refl _ _).alloc (Nat.le_of_eq hg.symm) _).alloc (by rw [World.size_alloc]; omega) _
 rw [show Below w.heap.size w = Below g w by rw [hg]]
 have hd := hm.dig
 have hk : (a : Int) % 16 = 1 := by omega
 rw [hg] at hM
 replace hg := Lib.hid hg
 replace hA := Lib.hid hA
 replace hB := Lib.hid hB
 replace hR := Lib.hid hR
 replace hM := Lib.hid hM
 go_enter Try.func12, Try.ntmps12
 go_upto_region 1 with fail
 try rw [z0_lit]
 try simp only [hg.out]
 generalize (w.alloc (.cells (msC m (.slice x N cap)).toArray 42)).alloc (.cells (msC z0 nilS).toArray 42) = w1 at hA hB hR ⊢
 obtain ⟨y, hy⟩ : ∃ y, (msC m (.slice x N cap))[1]? = some y := ⟨_, List.getElem?_eq_getElem (by rw [msC_len hd]; decide)⟩
 have cc := hA.out.get hy
 have ff := hA.out.free 1
 have hA2 := hA.out.put 1 (.int .i64 n)
 have hA3 := Lib.hid (atL_eq hA2 (show _ = msC (turnM m 1 n) (.slice x N cap) from rfl))
 have hR3 := Lib.hid (hR.out.far (b := g) (by omega) 1 (.int .i64 n))
 have hB3 := hB.out.setCell (p := ⟨g, 1, none⟩) (Nat.le_refl _) (.int .i64 n)
 have htd : (turnM m 1 n).dig.length = 32 := by first | exact hd | (show (m.dig.set 0 _).length = 32; rw [List.length_set]; exact hd)
 have hO := hR3.out.row (putL (msC z0 nilS) 0 (msC (turnM m 1 n) (.slice x N cap)))
 have hO3 := Lib.hid (atL_eq hO (put_msg z0d htd))
 have hB4 := below_row hB3 (g := g + 1) (Nat.le_succ g) (putL (msC z0 nilS) 0 (msC (turnM m 1 n) (.slice x N cap))).toArray
 have hM4 := Lib.hid (RowB.more (RowB.keep hM.out hB4 (Nat.le_refl _)) (Nat.le_of_lt (Nat.lt_trans (Nat.lt_succ_self g) hO.inside)))
 replace hB4 := Lib.hid hB4
 have htm : (turnM m 1 n).marks = m.marks := rfl
 have hld := Lib.hid (fun j u (hu : (msC (turnM m 1 n) (.slice x N cap))[j]? = some u) => (show (w1.setCell ⟨g, 1, none⟩ (.int .i64 n)).cell? ⟨g, 0 + j, none⟩ = some u by rw [Nat.zero_add]; exact hA3.out.get hu))
 obtain ⟨m', hm'⟩ : ∃ m', turnM m 1 n = m' := ⟨_, rfl⟩
 simp only [hm'] at hld htd hO3 hB4 hM4 htm
 replace hm' := Lib.hid hm'
 clear hA hB hR hM hA2 hA3 hB3 hO
 go_wp2_with (first | (refine wpList_load_part rfl 42 _ rfl g 0 rfl (msC m' (.slice x N cap)) hld.out _ Try.underlying42 rfl (size_msg htd) ?_) | (refine wpList_store_part rfl 42 _ _ rfl (g + 1) 0 (msC m' (.slice x N cap)) rfl rfl 42 (msC z0 nilS) hR3.out (size_msg htd) (less_msg z0d htd) (ms_one rfl) ?_))
 refine bodyPost_ret (ret_array rfl rfl hO3.out _ Try.underlying42 rfl (size_msg htd)) rfl ?_
 exact ⟨x, N, cap, by rw [hm'.out], by rw [hm'.out, htm]; exact hM4.out, hB4.out⟩
set_option maxRecDepth 100000 in
set_option maxHeartbeats 8000000 in
theorem turn2 (m : Ms) (x : Option Addr) (N cap : Nat) (hm : m.ok) (a : Nat) (ha : a % 16 = 2) (n : Int) (hn : I64 n) (w : World) (hM : MarksAt w.heap.size w (.slice x N cap) m.marks) :
 Calls Try.prog 12 #[.agg (msC m (.slice x N cap)).toArray, .int .u8 (a : Int), .int .i64 n] w fun e w' => ∃ x' N' c', e = .returned (.agg (msC (turnM m 2 n) (.slice x' N' c')).toArray) ∧ MarksAt w'.heap.size w' (.slice x' N' c') (turnM m 2 n).marks ∧ Below w.heap.size w w' := by
 obtain ⟨g, hg⟩ : ∃ g, w.heap.size = g := ⟨_, rfl⟩
 have hA : AtL ((w.alloc (.cells (msC m (.slice x N cap)).toArray 42)).alloc (.cells (msC z0 nilS).toArray 42)) g 42 (msC m (.slice x N cap)) := by rw [← hg]; exact (AtL.new w _ _).alloc _
 have hR : AtL ((w.alloc (.cells (msC m (.slice x N cap)).toArray 42)).alloc (.cells (msC z0 nilS).toArray 42)) (g + 1) 42 (msC z0 nilS) := by
  have := AtL.new (w.alloc (.cells (msC m (.slice x N cap)).toArray 42)) 42 (msC z0 nilS)
  rwa [World.size_alloc, hg] at this
 have hB : Below g w ((w.alloc (.cells (msC m (.slice x N cap)).toArray 42)).alloc (.cells (msC z0 nilS).toArray 42)) := ((Below.refl _ _).alloc (Nat.le_of_eq hg.symm) _).alloc (by rw [World.size_alloc]; omega) _
 rw [show Below w.heap.size w = Below g w by rw [hg]]
 have hd := hm.dig
 have hk : (a : Int) % 16 = 2 := by omega
 rw [hg] at hM
 replace hg := Lib.hid hg
 replace hA := Lib.hid hA
 replace hB := Lib.hid hB
 replace hR := Lib.hid hR
 replace hM := Lib.hid hM
 go_enter Try.func12, Try.ntmps12
 go_upto_region 1 with fail
 try rw [z0_lit]
 try simp only [hg.out]
 generalize (w.alloc (.cells (msC m (.slice x N cap)).toArray 42)).alloc (.cells (msC z0 nilS).toArray 42) = w1 at hA hB hR ⊢
 obtain ⟨y, hy⟩ : ∃ y, (msC m (.slice x N cap))[2]? = some y := ⟨_, List.getElem?_eq_getElem (by rw [msC_len hd]; decide)⟩
 have cc := hA.out.get hy
 have ff := hA.out.free 2
 have hA2 := hA.out.put 2 (.int .i64 n)
 have hA3 := Lib.hid (atL_eq hA2 (show _ = msC (turnM m 2 n) (.slice x N cap) from rfl))
 have hR3 := Lib.hid (hR.out.far (b := g) (by omega) 2 (.int .i64 n))
 have hB3 := hB.out.setCell (p := ⟨g, 2, none⟩) (Nat.le_refl _) (.int .i64 n)
 have htd : (turnM m 2 n).dig.length = 32 := by first | exact hd | (show (m.dig.set 0 _).length = 32; rw [List.length_set]; exact hd)
 have hO := hR3.out.row (putL (msC z0 nilS) 0 (msC (turnM m 2 n) (.slice x N cap)))
 have hO3 := Lib.hid (atL_eq hO (put_msg z0d htd))
 have hB4 := below_row hB3 (g := g + 1) (Nat.le_succ g) (putL (msC z0 nilS) 0 (msC (turnM m 2 n) (.slice x N cap))).toArray
 have hM4 := Lib.hid (RowB.more (RowB.keep hM.out hB4 (Nat.le_refl _)) (Nat.le_of_lt (Nat.lt_trans (Nat.lt_succ_self g) hO.inside)))
 replace hB4 := Lib.hid hB4
 have htm : (turnM m 2 n).marks = m.marks := rfl
 have hld := Lib.hid (fun j u (hu : (msC (turnM m 2 n) (.slice x N cap))[j]? = some u) => (show (w1.setCell ⟨g, 2, none⟩ (.int .i64 n)).cell? ⟨g, 0 + j, none⟩ = some u by rw [Nat.zero_add]; exact hA3.out.get hu))
 obtain ⟨m', hm'⟩ : ∃ m', turnM m 2 n = m' := ⟨_, rfl⟩
 simp only [hm'] at hld htd hO3 hB4 hM4 htm
 replace hm' := Lib.hid hm'
 clear hA hB hR hM hA2 hA3 hB3 hO
 go_wp2_with (first | (refine wpList_load_part rfl 42 _ rfl g 0 rfl (msC m' (.slice x N cap)) hld.out _ Try.underlying42 rfl (size_msg htd) ?_) | (refine wpList_store_part rfl 42 _ _ rfl (g + 1) 0 (msC m' (.slice x N cap)) rfl rfl 42 (msC z0 nilS) hR3.out (size_msg htd) (less_msg z0d htd) (ms_one rfl) ?_))
 refine bodyPost_ret (ret_array rfl rfl hO3.out _ Try.underlying42 rfl (size_msg htd)) rfl ?_
 exact ⟨x, N, cap, by rw [hm'.out], by rw [hm'.out, htm]; exact hM4.out, hB4.out⟩
set_option maxRecDepth 100000 in
set_option maxHeartbeats 8000000 in
theorem turn3 (m : Ms) (x : Option Addr) (N cap : Nat) (hm : m.ok) (a : Nat) (ha : a % 16 = 3) (n : Int) (hn : I64 n) (w : World) (hM : MarksAt w.heap.size w (.slice x N cap) m.marks) :
 Calls Try.prog 12 #[.agg (msC m (.slice x N cap)).toArray, .int .u8 (a : Int), .int .i64 n] w fun e w' => ∃ x' N' c', e = .returned (.agg (msC (turnM m 3 n) (.slice x' N' c')).toArray) ∧ MarksAt w'.heap.size w' (.slice x' N' c') (turnM m 3 n).marks ∧ Below w.heap.size w w' := by
 obtain ⟨g, hg⟩ : ∃ g, w.heap.size = g := ⟨_, rfl⟩
 have hA : AtL ((w.alloc (.cells (msC m (.slice x N cap)).toArray 42)).alloc (.cells (msC z0 nilS).toArray 42)) g 42 (msC m (.slice x N cap)) := by rw [← hg]; exact (AtL.new w _ _).alloc _
 have hR : AtL ((w.alloc (.cells (msC m (.slice x N cap)).toArray 42)).alloc (.cells (msC z0 nilS).toArray 42)) (g + 1) 42 (msC z0 nilS) := by
  have := AtL.new (w.alloc (.cells (msC m (.slice x N cap)).toArray 42)) 42 (msC z0 nilS)
  rwa [World.size_alloc, hg] at this
 have hB : Below g w ((w.alloc (.cells (msC m (.slice x N cap)).toArray 42)).alloc (.cells (msC z0 nilS).toArray 42)) := ((Below.refl _ _).alloc (Nat.le_of_eq hg.symm) _).alloc (by rw [World.size_alloc]; omega) _
 rw [show Below w.heap.size w = Below g w by rw [hg]]
 have hd := hm.dig
 have hk : (a : Int) % 16 = 3 := by omega
 rw [hg] at hM
 replace hg := Lib.hid hg
 replace hA := Lib.hid hA
 replace hB := Lib.hid hB
 replace hR := Lib.hid hR
 replace hM := Lib.hid hM
 go_enter Try.func12, Try.ntmps12
 go_upto_region 1 with fail
 try rw [z0_lit]
 try simp only [hg.out]
 generalize (w.alloc (.cells (msC m (.slice x N cap)).toArray 42)).alloc (.cells (msC z0 nilS).toArray 42) = w1 at hA hB hR ⊢
 obtain ⟨y, hy⟩ : ∃ y, (msC m (.slice x N cap))[3]? = some y := ⟨_, List.getElem?_eq_getElem (by rw [msC_len hd]; decide)⟩
 have cc := hA.out.get hy
 have ff := hA.out.free 3
 have hA2 := hA.out.put 3 (.int .i64 n)
 have hA3 := Lib.hid (atL_eq hA2 (show _ = msC (turnM m 3 n) (.slice x N cap) from rfl))
 have hR3 := Lib.hid (hR.out.far (b := g) (by omega) 3 (.int .i64 n))
 have hB3 := hB.out.setCell (p := ⟨g, 3, none⟩) (Nat.le_refl _) (.int .i64 n)
 have htd : (turnM m 3 n).dig.length = 32 := by first | exact hd | (show (m.dig.set 0 _).length = 32; rw [List.length_set]; exact hd)
 have hO := hR3.out.row (putL (msC z0 nilS) 0 (msC (turnM m 3 n) (.slice x N cap)))
 have hO3 := Lib.hid (atL_eq hO (put_msg z0d htd))
 have hB4 := below_row hB3 (g := g + 1) (Nat.le_succ g) (putL (msC z0 nilS) 0 (msC (turnM m 3 n) (.slice x N cap))).toArray
 have hM4 := Lib.hid (RowB.more (RowB.keep hM.out hB4 (Nat.le_refl _)) (Nat.le_of_lt (Nat.lt_trans (Nat.lt_succ_self g) hO.inside)))
 replace hB4 := Lib.hid hB4
 have htm : (turnM m 3 n).marks = m.marks := rfl
 have hld := Lib.hid (fun j u (hu : (msC (turnM m 3 n) (.slice x N cap))[j]? = some u) => (show (w1.setCell ⟨g, 3, none⟩ (.int .i64 n)).cell? ⟨g, 0 + j, none⟩ = some u by rw [Nat.zero_add]; exact hA3.out.get hu))
 obtain ⟨m', hm'⟩ : ∃ m', turnM m 3 n = m' := ⟨_, rfl⟩
 simp only [hm'] at hld htd hO3 hB4 hM4 htm
 replace hm' := Lib.hid hm'
 clear hA hB hR hM hA2 hA3 hB3 hO
 go_wp2_with (first | (refine wpList_load_part rfl 42 _ rfl g 0 rfl (msC m' (.slice x N cap)) hld.out _ Try.underlying42 rfl (size_msg htd) ?_) | (refine wpList_store_part rfl 42 _ _ rfl (g + 1) 0 (msC m' (.slice x N cap)) rfl rfl 42 (msC z0 nilS) hR3.out (size_msg htd) (less_msg z0d htd) (ms_one rfl) ?_))
 refine bodyPost_ret (ret_array rfl rfl hO3.out _ Try.underlying42 rfl (size_msg htd)) rfl ?_
 exact ⟨x, N, cap, by rw [hm'.out], by rw [hm'.out, htm]; exact hM4.out, hB4.out⟩
set_option maxRecDepth 100000 in
set_option maxHeartbeats 8000000 in
theorem turn4 (m : Ms) (x : Option Addr) (N cap : Nat) (hm : m.ok) (a : Nat) (ha : a % 16 = 4) (n : Int) (hn : I64 n) (w : World) (hM : MarksAt w.heap.size w (.slice x N cap) m.marks) :
 Calls Try.prog 12 #[.agg (msC m (.slice x N cap)).toArray, .int .u8 (a : Int), .int .i64 n] w fun e w' => ∃ x' N' c', e = .returned (.agg (msC (turnM m 4 n) (.slice x' N' c')).toArray) ∧ MarksAt w'.heap.size w' (.slice x' N' c') (turnM m 4 n).marks ∧ Below w.heap.size w w' := by
 obtain ⟨g, hg⟩ : ∃ g, w.heap.size = g := ⟨_, rfl⟩
 have hA : AtL ((w.alloc (.cells (msC m (.slice x N cap)).toArray 42)).alloc (.cells (msC z0 nilS).toArray 42)) g 42 (msC m (.slice x N cap)) := by rw [← hg]; exact (AtL.new w _ _).alloc _
 have hR : AtL ((w.alloc (.cells (msC m (.slice x N cap)).toArray 42)).alloc (.cells (msC z0 nilS).toArray 42)) (g + 1) 42 (msC z0 nilS) := by
  have := AtL.new (w.alloc (.cells (msC m (.slice x N cap)).toArray 42)) 42 (msC z0 nilS)
  rwa [World.size_alloc, hg] at this
 have hB : Below g w ((w.alloc (.cells (msC m (.slice x N cap)).toArray 42)).alloc (.cells (msC z0 nilS).toArray 42)) := ((Below.refl _ _).alloc (Nat.le_of_eq hg.symm) _).alloc (by rw [World.size_alloc]; omega) _
 rw [show Below w.heap.size w = Below g w by rw [hg]]
 have hd := hm.dig
 have hk : (a : Int) % 16 = 4 := by omega
 rw [hg] at hM
 replace hg := Lib.hid hg
 replace hA := Lib.hid hA
 replace hB := Lib.hid hB
 replace hR := Lib.hid hR
 replace hM := Lib.hid hM
 go_enter Try.func12, Try.ntmps12
 go_upto_region 1 with fail
 try rw [z0_lit]
 try simp only [hg.out]
 generalize (w.alloc (.cells (msC m (.slice x N cap)).toArray 42)).alloc (.cells (msC z0 nilS).toArray 42) = w1 at hA hB hR ⊢
 obtain ⟨y, hy⟩ : ∃ y, (msC m (.slice x N cap))[4]? = some y := ⟨_, List.getElem?_eq_getElem (by rw [msC_len hd]; decide)⟩
 have cc := hA.out.get hy
 have ff := hA.out.free 4
 have hA2 := hA.out.put 4 (.int .i64 n)
 have hA3 := Lib.hid (atL_eq hA2 (show _ = msC (turnM m 4 n) (.slice x N cap) from rfl))
 have hR3 := Lib.hid (hR.out.far (b := g) (by omega) 4 (.int .i64 n))
 have hB3 := hB.out.setCell (p := ⟨g, 4, none⟩) (Nat.le_refl _) (.int .i64 n)
 have htd : (turnM m 4 n).dig.length = 32 := by first | exact hd | (show (m.dig.set 0 _).length = 32; rw [List.length_set]; exact hd)
 have hO := hR3.out.row (putL (msC z0 nilS) 0 (msC (turnM m 4 n) (.slice x N cap)))
 have hO3 := Lib.hid (atL_eq hO (put_msg z0d htd))
 have hB4 := below_row hB3 (g := g + 1) (Nat.le_succ g) (putL (msC z0 nilS) 0 (msC (turnM m 4 n) (.slice x N cap))).toArray
 have hM4 := Lib.hid (RowB.more (RowB.keep hM.out hB4 (Nat.le_refl _)) (Nat.le_of_lt (Nat.lt_trans (Nat.lt_succ_self g) hO.inside)))
 replace hB4 := Lib.hid hB4
 have htm : (turnM m 4 n).marks = m.marks := rfl
 have hld := Lib.hid (fun j u (hu : (msC (turnM m 4 n) (.slice x N cap))[j]? = some u) => (show (w1.setCell ⟨g, 4, none⟩ (.int .i64 n)).cell? ⟨g, 0 + j, none⟩ = some u by rw [Nat.zero_add]; exact hA3.out.get hu))
 obtain ⟨m', hm'⟩ : ∃ m', turnM m 4 n = m' := ⟨_, rfl⟩
 simp only [hm'] at hld htd hO3 hB4 hM4 htm
 replace hm' := Lib.hid hm'
 clear hA hB hR hM hA2 hA3 hB3 hO
 go_wp2_with (first | (refine wpList_load_part rfl 42 _ rfl g 0 rfl (msC m' (.slice x N cap)) hld.out _ Try.underlying42 rfl (size_msg htd) ?_) | (refine wpList_store_part rfl 42 _ _ rfl (g + 1) 0 (msC m' (.slice x N cap)) rfl rfl 42 (msC z0 nilS) hR3.out (size_msg htd) (less_msg z0d htd) (ms_one rfl) ?_))
 refine bodyPost_ret (ret_array rfl rfl hO3.out _ Try.underlying42 rfl (size_msg htd)) rfl ?_
 exact ⟨x, N, cap, by rw [hm'.out], by rw [hm'.out, htm]; exact hM4.out, hB4.out⟩
set_option maxRecDepth 100000 in
set_option maxHeartbeats 8000000 in
theorem turn5 (m : Ms) (x : Option Addr) (N cap : Nat) (hm : m.ok) (a : Nat) (ha : a % 16 = 5) (n : Int) (hn : I64 n) (w : World) (hM : MarksAt w.heap.size w (.slice x N cap) m.marks) :
 Calls Try.prog 12 #[.agg (msC m (.slice x N cap)).toArray, .int .u8 (a : Int), .int .i64 n] w fun e w' => ∃ x' N' c', e = .returned (.agg (msC (turnM m 5 n) (.slice x' N' c')).toArray) ∧ MarksAt w'.heap.size w' (.slice x' N' c') (turnM m 5 n).marks ∧ Below w.heap.size w w' := by
 obtain ⟨g, hg⟩ : ∃ g, w.heap.size = g := ⟨_, rfl⟩
 have hA : AtL ((w.alloc (.cells (msC m (.slice x N cap)).toArray 42)).alloc (.cells (msC z0 nilS).toArray 42)) g 42 (msC m (.slice x N cap)) := by rw [← hg]; exact (AtL.new w _ _).alloc _
 have hR : AtL ((w.alloc (.cells (msC m (.slice x N cap)).toArray 42)).alloc (.cells (msC z0 nilS).toArray 42)) (g + 1) 42 (msC z0 nilS) := by
  have := AtL.new (w.alloc (.cells (msC m (.slice x N cap)).toArray 42)) 42 (msC z0 nilS)
  rwa [World.size_alloc, hg] at this
 have hB : Below g w ((w.alloc (.cells (msC m (.slice x N cap)).toArray 42)).alloc (.cells (msC z0 nilS).toArray 42)) := ((Below.refl _ _).alloc (Nat.le_of_eq hg.symm) _).alloc (by rw [World.size_alloc]; omega) _
 rw [show Below w.heap.size w = Below g w by rw [hg]]
 have hd := hm.dig
 have hk : (a : Int) % 16 = 5 := by omega
 rw [hg] at hM
 replace hg := Lib.hid hg
 replace hA := Lib.hid hA
 replace hB := Lib.hid hB
 replace hR := Lib.hid hR
 replace hM := Lib.hid hM
 go_enter Try.func12, Try.ntmps12
 go_upto_region 1 with fail
 try rw [z0_lit]
 try simp only [hg.out]
 generalize (w.alloc (.cells (msC m (.slice x N cap)).toArray 42)).alloc (.cells (msC z0 nilS).toArray 42) = w1 at hA hB hR ⊢
 obtain ⟨y, hy⟩ : ∃ y, (msC m (.slice x N cap))[5]? = some y := ⟨_, List.getElem?_eq_getElem (by rw [msC_len hd]; decide)⟩
 have cc := hA.out.get hy
 have ff := hA.out.free 5
 have hA2 := hA.out.put 5 (.int .i64 n)
 have hA3 := Lib.hid (atL_eq hA2 (show _ = msC (turnM m 5 n) (.slice x N cap) from rfl))
 have hR3 := Lib.hid (hR.out.far (b := g) (by omega) 5 (.int .i64 n))
 have hB3 := hB.out.setCell (p := ⟨g, 5, none⟩) (Nat.le_refl _) (.int .i64 n)
 have htd : (turnM m 5 n).dig.length = 32 := by first | exact hd | (show (m.dig.set 0 _).length = 32; rw [List.length_set]; exact hd)
 have hO := hR3.out.row (putL (msC z0 nilS) 0 (msC (turnM m 5 n) (.slice x N cap)))
 have hO3 := Lib.hid (atL_eq hO (put_msg z0d htd))
 have hB4 := below_row hB3 (g := g + 1) (Nat.le_succ g) (putL (msC z0 nilS) 0 (msC (turnM m 5 n) (.slice x N cap))).toArray
 have hM4 := Lib.hid (RowB.more (RowB.keep hM.out hB4 (Nat.le_refl _)) (Nat.le_of_lt (Nat.lt_trans (Nat.lt_succ_self g) hO.inside)))
 replace hB4 := Lib.hid hB4
 have htm : (turnM m 5 n).marks = m.marks := rfl
 have hld := Lib.hid (fun j u (hu : (msC (turnM m 5 n) (.slice x N cap))[j]? = some u) => (show (w1.setCell ⟨g, 5, none⟩ (.int .i64 n)).cell? ⟨g, 0 + j, none⟩ = some u by rw [Nat.zero_add]; exact hA3.out.get hu))
 obtain ⟨m', hm'⟩ : ∃ m', turnM m 5 n = m' := ⟨_, rfl⟩
 simp only [hm'] at hld htd hO3 hB4 hM4 htm
 replace hm' := Lib.hid hm'
 clear hA hB hR hM hA2 hA3 hB3 hO
 go_wp2_with (first | (refine wpList_load_part rfl 42 _ rfl g 0 rfl (msC m' (.slice x N cap)) hld.out _ Try.underlying42 rfl (size_msg htd) ?_) | (refine wpList_store_part rfl 42 _ _ rfl (g + 1) 0 (msC m' (.slice x N cap)) rfl rfl 42 (msC z0 nilS) hR3.out (size_msg htd) (less_msg z0d htd) (ms_one rfl) ?_))
 refine bodyPost_ret (ret_array rfl rfl hO3.out _ Try.underlying42 rfl (size_msg htd)) rfl ?_
 exact ⟨x, N, cap, by rw [hm'.out], by rw [hm'.out, htm]; exact hM4.out, hB4.out⟩
set_option maxRecDepth 100000 in
set_option maxHeartbeats 8000000 in
theorem turn6 (m : Ms) (x : Option Addr) (N cap : Nat) (hm : m.ok) (a : Nat) (ha : a % 16 = 6) (n : Int) (hn : I64 n) (w : World) (hM : MarksAt w.heap.size w (.slice x N cap) m.marks) :
 Calls Try.prog 12 #[.agg (msC m (.slice x N cap)).toArray, .int .u8 (a : Int), .int .i64 n] w fun e w' => ∃ x' N' c', e = .returned (.agg (msC (turnM m 6 n) (.slice x' N' c')).toArray) ∧ MarksAt w'.heap.size w' (.slice x' N' c') (turnM m 6 n).marks ∧ Below w.heap.size w w' := by
 obtain ⟨g, hg⟩ : ∃ g, w.heap.size = g := ⟨_, rfl⟩
 have hA : AtL ((w.alloc (.cells (msC m (.slice x N cap)).toArray 42)).alloc (.cells (msC z0 nilS).toArray 42)) g 42 (msC m (.slice x N cap)) := by rw [← hg]; exact (AtL.new w _ _).alloc _
 have hR : AtL ((w.alloc (.cells (msC m (.slice x N cap)).toArray 42)).alloc (.cells (msC z0 nilS).toArray 42)) (g + 1) 42 (msC z0 nilS) := by
  have := AtL.new (w.alloc (.cells (msC m (.slice x N cap)).toArray 42)) 42 (msC z0 nilS)
  rwa [World.size_alloc, hg] at this
 have hB : Below g w ((w.alloc (.cells (msC m (.slice x N cap)).toArray 42)).alloc (.cells (msC z0 nilS).toArray 42)) := ((Below.refl _ _).alloc (Nat.le_of_eq hg.symm) _).alloc (by rw [World.size_alloc]; omega) _
 rw [show Below w.heap.size w = Below g w by rw [hg]]
 have hd := hm.dig
 have hk : (a : Int) % 16 = 6 := by omega
 rw [hg] at hM
 replace hg := Lib.hid hg
 replace hA := Lib.hid hA
 replace hB := Lib.hid hB
 replace hR := Lib.hid hR
 replace hM := Lib.hid hM
 go_enter Try.func12, Try.ntmps12
 go_upto_region 1 with fail
 try rw [z0_lit]
 try simp only [hg.out]
 generalize (w.alloc (.cells (msC m (.slice x N cap)).toArray 42)).alloc (.cells (msC z0 nilS).toArray 42) = w1 at hA hB hR ⊢
 obtain ⟨y, hy⟩ : ∃ y, (msC m (.slice x N cap))[10]? = some y := ⟨_, List.getElem?_eq_getElem (by rw [msC_len hd]; decide)⟩
 have cc := hA.out.get hy
 have ff := hA.out.free 10
 have hA2 := hA.out.put 10 (.int .i64 n)
 have hA3 := Lib.hid (atL_eq hA2 (show _ = msC (turnM m 6 n) (.slice x N cap) from rfl))
 have hR3 := Lib.hid (hR.out.far (b := g) (by omega) 10 (.int .i64 n))
 have hB3 := hB.out.setCell (p := ⟨g, 10, none⟩) (Nat.le_refl _) (.int .i64 n)
 have htd : (turnM m 6 n).dig.length = 32 := by first | exact hd | (show (m.dig.set 0 _).length = 32; rw [List.length_set]; exact hd)
 have hO := hR3.out.row (putL (msC z0 nilS) 0 (msC (turnM m 6 n) (.slice x N cap)))
 have hO3 := Lib.hid (atL_eq hO (put_msg z0d htd))
 have hB4 := below_row hB3 (g := g + 1) (Nat.le_succ g) (putL (msC z0 nilS) 0 (msC (turnM m 6 n) (.slice x N cap))).toArray
 have hM4 := Lib.hid (RowB.more (RowB.keep hM.out hB4 (Nat.le_refl _)) (Nat.le_of_lt (Nat.lt_trans (Nat.lt_succ_self g) hO.inside)))
 replace hB4 := Lib.hid hB4
 have htm : (turnM m 6 n).marks = m.marks := rfl
 have hld := Lib.hid (fun j u (hu : (msC (turnM m 6 n) (.slice x N cap))[j]? = some u) => (show (w1.setCell ⟨g, 10, none⟩ (.int .i64 n)).cell? ⟨g, 0 + j, none⟩ = some u by rw [Nat.zero_add]; exact hA3.out.get hu))
 obtain ⟨m', hm'⟩ : ∃ m', turnM m 6 n = m' := ⟨_, rfl⟩
 simp only [hm'] at hld htd hO3 hB4 hM4 htm
 replace hm' := Lib.hid hm'
 clear hA hB hR hM hA2 hA3 hB3 hO
 go_wp2_with (first | (refine wpList_load_part rfl 42 _ rfl g 0 rfl (msC m' (.slice x N cap)) hld.out _ Try.underlying42 rfl (size_msg htd) ?_) | (refine wpList_store_part rfl 42 _ _ rfl (g + 1) 0 (msC m' (.slice x N cap)) rfl rfl 42 (msC z0 nilS) hR3.out (size_msg htd) (less_msg z0d htd) (ms_one rfl) ?_))
 refine bodyPost_ret (ret_array rfl rfl hO3.out _ Try.underlying42 rfl (size_msg htd)) rfl ?_
 exact ⟨x, N, cap, by rw [hm'.out], by rw [hm'.out, htm]; exact hM4.out, hB4.out⟩
set_option maxRecDepth 100000 in
set_option maxHeartbeats 8000000 in
theorem turn7 (m : Ms) (x : Option Addr) (N cap : Nat) (hm : m.ok) (a : Nat) (ha : a % 16 = 7) (n : Int) (hn : I64 n) (w : World) (hM : MarksAt w.heap.size w (.slice x N cap) m.marks) :
 Calls Try.prog 12 #[.agg (msC m (.slice x N cap)).toArray, .int .u8 (a : Int), .int .i64 n] w fun e w' => ∃ x' N' c', e = .returned (.agg (msC (turnM m 7 n) (.slice x' N' c')).toArray) ∧ MarksAt w'.heap.size w' (.slice x' N' c') (turnM m 7 n).marks ∧ Below w.heap.size w w' := by
 obtain ⟨g, hg⟩ : ∃ g, w.heap.size = g := ⟨_, rfl⟩
 have hA : AtL ((w.alloc (.cells (msC m (.slice x N cap)).toArray 42)).alloc (.cells (msC z0 nilS).toArray 42)) g 42 (msC m (.slice x N cap)) := by rw [← hg]; exact (AtL.new w _ _).alloc _
 have hR : AtL ((w.alloc (.cells (msC m (.slice x N cap)).toArray 42)).alloc (.cells (msC z0 nilS).toArray 42)) (g + 1) 42 (msC z0 nilS) := by
  have := AtL.new (w.alloc (.cells (msC m (.slice x N cap)).toArray 42)) 42 (msC z0 nilS)
  rwa [World.size_alloc, hg] at this
 have hB : Below g w ((w.alloc (.cells (msC m (.slice x N cap)).toArray 42)).alloc (.cells (msC z0 nilS).toArray 42)) := ((Below.refl _ _).alloc (Nat.le_of_eq hg.symm) _).alloc (by rw [World.size_alloc]; omega) _
 rw [show Below w.heap.size w = Below g w by rw [hg]]
 have hd := hm.dig
 have hk : (a : Int) % 16 = 7 := by omega
 rw [hg] at hM
 replace hg := Lib.hid hg
 replace hA := Lib.hid hA
 replace hB := Lib.hid hB
 replace hR := Lib.hid hR
 replace hM := Lib.hid hM
 go_enter Try.func12, Try.ntmps12
 go_upto_region 1 with fail
 try rw [z0_lit]
 try simp only [hg.out]
 generalize (w.alloc (.cells (msC m (.slice x N cap)).toArray 42)).alloc (.cells (msC z0 nilS).toArray 42) = w1 at hA hB hR ⊢
 obtain ⟨y, hy⟩ : ∃ y, (msC m (.slice x N cap))[13]? = some y := ⟨_, List.getElem?_eq_getElem (by rw [msC_len hd]; decide)⟩
 have cc := hA.out.get hy
 have ff := hA.out.free 13
 have hA2 := hA.out.put 13 (.int .i64 n)
 have hA3 := Lib.hid (atL_eq hA2 (show _ = msC (turnM m 7 n) (.slice x N cap) from rfl))
 have hR3 := Lib.hid (hR.out.far (b := g) (by omega) 13 (.int .i64 n))
 have hB3 := hB.out.setCell (p := ⟨g, 13, none⟩) (Nat.le_refl _) (.int .i64 n)
 have htd : (turnM m 7 n).dig.length = 32 := by first | exact hd | (show (m.dig.set 0 _).length = 32; rw [List.length_set]; exact hd)
 have hO := hR3.out.row (putL (msC z0 nilS) 0 (msC (turnM m 7 n) (.slice x N cap)))
 have hO3 := Lib.hid (atL_eq hO (put_msg z0d htd))
 have hB4 := below_row hB3 (g := g + 1) (Nat.le_succ g) (putL (msC z0 nilS) 0 (msC (turnM m 7 n) (.slice x N cap))).toArray
 have hM4 := Lib.hid (RowB.more (RowB.keep hM.out hB4 (Nat.le_refl _)) (Nat.le_of_lt (Nat.lt_trans (Nat.lt_succ_self g) hO.inside)))
 replace hB4 := Lib.hid hB4
 have htm : (turnM m 7 n).marks = m.marks := rfl
 have hld := Lib.hid (fun j u (hu : (msC (turnM m 7 n) (.slice x N cap))[j]? = some u) => (show (w1.setCell ⟨g, 13, none⟩ (.int .i64 n)).cell? ⟨g, 0 + j, none⟩ = some u by rw [Nat.zero_add]; exact hA3.out.get hu))
 obtain ⟨m', hm'⟩ : ∃ m', turnM m 7 n = m' := ⟨_, rfl⟩
 simp only [hm'] at hld htd hO3 hB4 hM4 htm
 replace hm' := Lib.hid hm'
 clear hA hB hR hM hA2 hA3 hB3 hO
 go_wp2_with (first | (refine wpList_load_part rfl 42 _ rfl g 0 rfl (msC m' (.slice x N cap)) hld.out _ Try.underlying42 rfl (size_msg htd) ?_) | (refine wpList_store_part rfl 42 _ _ rfl (g + 1) 0 (msC m' (.slice x N cap)) rfl rfl 42 (msC z0 nilS) hR3.out (size_msg htd) (less_msg z0d htd) (ms_one rfl) ?_))
 refine bodyPost_ret (ret_array rfl rfl hO3.out _ Try.underlying42 rfl (size_msg htd)) rfl ?_
 exact ⟨x, N, cap, by rw [hm'.out], by rw [hm'.out, htm]; exact hM4.out, hB4.out⟩
set_option maxRecDepth 100000 in
set_option maxHeartbeats 8000000 in
theorem turn8 (m : Ms) (x : Option Addr) (N cap : Nat) (hm : m.ok) (a : Nat) (ha : a % 16 = 8) (n : Int) (hn : I64 n) (w : World) (hM : MarksAt w.heap.size w (.slice x N cap) m.marks) :
 Calls Try.prog 12 #[.agg (msC m (.slice x N cap)).toArray, .int .u8 (a : Int), .int .i64 n] w fun e w' => ∃ x' N' c', e = .returned (.agg (msC (turnM m 8 n) (.slice x' N' c')).toArray) ∧ MarksAt w'.heap.size w' (.slice x' N' c') (turnM m 8 n).marks ∧ Below w.heap.size w w' := by
 obtain ⟨g, hg⟩ : ∃ g, w.heap.size = g := ⟨_, rfl⟩
 have hA : AtL ((w.alloc (.cells (msC m (.slice x N cap)).toArray 42)).alloc (.cells (msC z0 nilS).toArray 42)) g 42 (msC m (.slice x N cap)) := by rw [← hg]; exact (AtL.new w _ _).alloc _
 have hR : AtL ((w.alloc (.cells (msC m (.slice x N cap)).toArray 42)).alloc (.cells (msC z0 nilS).toArray 42)) (g + 1) 42 (msC z0 nilS) := by
  have := AtL.new (w.alloc (.cells (msC m (.slice x N cap)).toArray 42)) 42 (msC z0 nilS)
  rwa [World.size_alloc, hg] at this
 have hB : Below g w ((w.alloc (.cells (msC m (.slice x N cap)).toArray 42)).alloc (.cells (msC z0 nilS).toArray 42)) := ((Below.refl _ _).alloc (Nat.le_of_eq hg.symm) _).alloc (by rw [World.size_alloc]; omega) _
 rw [show Below w.heap.size w = Below g w by rw [hg]]
 have hd := hm.dig
 have hk : (a : Int) % 16 = 8 := by omega
 rw [hg] at hM
 replace hg := Lib.hid hg
 replace hA := Lib.hid hA
 replace hB := Lib.hid hB
 replace hR := Lib.hid hR
 replace hM := Lib.hid hM
 go_enter Try.func12, Try.ntmps12
 go_upto_region 1 with fail
 try rw [z0_lit]
 try simp only [hg.out]
 generalize (w.alloc (.cells (msC m (.slice x N cap)).toArray 42)).alloc (.cells (msC z0 nilS).toArray 42) = w1 at hA hB hR ⊢
 obtain ⟨y, hy⟩ : ∃ y, (msC m (.slice x N cap))[14]? = some y := ⟨_, List.getElem?_eq_getElem (by rw [msC_len hd]; decide)⟩
 have cc := hA.out.get hy
 have ff := hA.out.free 14
 have hA2 := hA.out.put 14 (.int .i64 n)
 have hA3 := Lib.hid (atL_eq hA2 (show _ = msC (turnM m 8 n) (.slice x N cap) from rfl))
 have hR3 := Lib.hid (hR.out.far (b := g) (by omega) 14 (.int .i64 n))
 have hB3 := hB.out.setCell (p := ⟨g, 14, none⟩) (Nat.le_refl _) (.int .i64 n)
 have htd : (turnM m 8 n).dig.length = 32 := by first | exact hd | (show (m.dig.set 0 _).length = 32; rw [List.length_set]; exact hd)
 have hO := hR3.out.row (putL (msC z0 nilS) 0 (msC (turnM m 8 n) (.slice x N cap)))
 have hO3 := Lib.hid (atL_eq hO (put_msg z0d htd))
 have hB4 := below_row hB3 (g := g + 1) (Nat.le_succ g) (putL (msC z0 nilS) 0 (msC (turnM m 8 n) (.slice x N cap))).toArray
 have hM4 := Lib.hid (RowB.more (RowB.keep hM.out hB4 (Nat.le_refl _)) (Nat.le_of_lt (Nat.lt_trans (Nat.lt_succ_self g) hO.inside)))
 replace hB4 := Lib.hid hB4
 have htm : (turnM m 8 n).marks = m.marks := rfl
 have hld := Lib.hid (fun j u (hu : (msC (turnM m 8 n) (.slice x N cap))[j]? = some u) => (show (w1.setCell ⟨g, 14, none⟩ (.int .i64 n)).cell? ⟨g, 0 + j, none⟩ = some u by rw [Nat.zero_add]; exact hA3.out.get hu))
 obtain ⟨m', hm'⟩ : ∃ m', turnM m 8 n = m' := ⟨_, rfl⟩
 simp only [hm'] at hld htd hO3 hB4 hM4 htm
 replace hm' := Lib.hid hm'
 clear hA hB hR hM hA2 hA3 hB3 hO
 go_wp2_with (first | (refine wpList_load_part rfl 42 _ rfl g 0 rfl (msC m' (.slice x N cap)) hld.out _ Try.underlying42 rfl (size_msg htd) ?_) | (refine wpList_store_part rfl 42 _ _ rfl (g + 1) 0 (msC m' (.slice x N cap)) rfl rfl 42 (msC z0 nilS) hR3.out (size_msg htd) (less_msg z0d htd) (ms_one rfl) ?_))
 refine bodyPost_ret (ret_array rfl rfl hO3.out _ Try.underlying42 rfl (size_msg htd)) rfl ?_
 exact ⟨x, N, cap, by rw [hm'.out], by rw [hm'.out, htm]; exact hM4.out, hB4.out⟩
set_option maxRecDepth 100000 in
set_option maxHeartbeats 8000000 in
theorem turn9 (m : Ms) (x : Option Addr) (N cap : Nat) (hm : m.ok) (a : Nat) (ha : a % 16 = 9) (n : Int) (hn : I64 n) (w : World) (hM : MarksAt w.heap.size w (.slice x N cap) m.marks) :
 Calls Try.prog 12 #[.agg (msC m (.slice x N cap)).toArray, .int .u8 (a : Int), .int .i64 n] w fun e w' => ∃ x' N' c', e = .returned (.agg (msC (turnM m 9 n) (.slice x' N' c')).toArray) ∧ MarksAt w'.heap.size w' (.slice x' N' c') (turnM m 9 n).marks ∧ Below w.heap.size w w' := by
 obtain ⟨g, hg⟩ : ∃ g, w.heap.size = g := ⟨_, rfl⟩
 have hA : AtL ((w.alloc (.cells (msC m (.slice x N cap)).toArray 42)).alloc (.cells (msC z0 nilS).toArray 42)) g 42 (msC m (.slice x N cap)) := by rw [← hg]; exact (AtL.new w _ _).alloc _
 have hR : AtL ((w.alloc (.cells (msC m (.slice x N cap)).toArray 42)).alloc (.cells (msC z0 nilS).toArray 42)) (g + 1) 42 (msC z0 nilS) := by
  have := AtL.new (w.alloc (.cells (msC m (.slice x N cap)).toArray 42)) 42 (msC z0 nilS)
  rwa [World.size_alloc, hg] at this
 have hB : Below g w ((w.alloc (.cells (msC m (.slice x N cap)).toArray 42)).alloc (.cells (msC z0 nilS).toArray 42)) := ((Below.refl _ _).alloc (Nat.le_of_eq hg.symm) _).alloc (by rw [World.size_alloc]; omega) _
 rw [show Below w.heap.size w = Below g w by rw [hg]]
 have hd := hm.dig
 have hk : (a : Int) % 16 = 9 := by omega
 rw [hg] at hM
 replace hg := Lib.hid hg
 replace hA := Lib.hid hA
 replace hB := Lib.hid hB
 replace hR := Lib.hid hR
 replace hM := Lib.hid hM
 go_enter Try.func12, Try.ntmps12
 go_upto_region 1 with fail
 try rw [z0_lit]
 try simp only [hg.out]
 generalize (w.alloc (.cells (msC m (.slice x N cap)).toArray 42)).alloc (.cells (msC z0 nilS).toArray 42) = w1 at hA hB hR ⊢
 obtain ⟨y, hy⟩ : ∃ y, (msC m (.slice x N cap))[15]? = some y := ⟨_, List.getElem?_eq_getElem (by rw [msC_len hd]; decide)⟩
 have cc := hA.out.get hy
 have ff := hA.out.free 15
 have hA2 := hA.out.put 15 (.int .u8 (n % 256))
 have hA3 := Lib.hid (atL_eq hA2 (show _ = msC (turnM m 9 n) (.slice x N cap) from set_d0 _ _ _ hd))
 have hR3 := Lib.hid (hR.out.far (b := g) (by omega) 15 (.int .u8 (n % 256)))
 have hB3 := hB.out.setCell (p := ⟨g, 15, none⟩) (Nat.le_refl _) (.int .u8 (n % 256))
 have htd : (turnM m 9 n).dig.length = 32 := by first | exact hd | (show (m.dig.set 0 _).length = 32; rw [List.length_set]; exact hd)
 have hO := hR3.out.row (putL (msC z0 nilS) 0 (msC (turnM m 9 n) (.slice x N cap)))
 have hO3 := Lib.hid (atL_eq hO (put_msg z0d htd))
 have hB4 := below_row hB3 (g := g + 1) (Nat.le_succ g) (putL (msC z0 nilS) 0 (msC (turnM m 9 n) (.slice x N cap))).toArray
 have hM4 := Lib.hid (RowB.more (RowB.keep hM.out hB4 (Nat.le_refl _)) (Nat.le_of_lt (Nat.lt_trans (Nat.lt_succ_self g) hO.inside)))
 replace hB4 := Lib.hid hB4
 have htm : (turnM m 9 n).marks = m.marks := rfl
 have hld := Lib.hid (fun j u (hu : (msC (turnM m 9 n) (.slice x N cap))[j]? = some u) => (show (w1.setCell ⟨g, 15, none⟩ (.int .u8 (n % 256))).cell? ⟨g, 0 + j, none⟩ = some u by rw [Nat.zero_add]; exact hA3.out.get hu))
 obtain ⟨m', hm'⟩ : ∃ m', turnM m 9 n = m' := ⟨_, rfl⟩
 simp only [hm'] at hld htd hO3 hB4 hM4 htm
 replace hm' := Lib.hid hm'
 clear hA hB hR hM hA2 hA3 hB3 hO
 go_wp2_with (first | (refine wpList_load_part rfl 42 _ rfl g 0 rfl (msC m' (.slice x N cap)) hld.out _ Try.underlying42 rfl (size_msg htd) ?_) | (refine wpList_store_part rfl 42 _ _ rfl (g + 1) 0 (msC m' (.slice x N cap)) rfl rfl 42 (msC z0 nilS) hR3.out (size_msg htd) (less_msg z0d htd) (ms_one rfl) ?_))
 refine bodyPost_ret (ret_array rfl rfl hO3.out _ Try.underlying42 rfl (size_msg htd)) rfl ?_
 exact ⟨x, N, cap, by rw [hm'.out], by rw [hm'.out, htm]; exact hM4.out, hB4.out⟩
set_option maxRecDepth 100000 in
set_option maxHeartbeats 8000000 in
theorem turn11 (m : Ms) (x : Option Addr) (N cap : Nat) (hm : m.ok) (a : Nat) (ha : a % 16 = 11) (n : Int) (hn : I64 n) (w : World) (hM : MarksAt w.heap.size w (.slice x N cap) m.marks) :
 Calls Try.prog 12 #[.agg (msC m (.slice x N cap)).toArray, .int .u8 (a : Int), .int .i64 n] w fun e w' => ∃ x' N' c', e = .returned (.agg (msC (turnM m 11 n) (.slice x' N' c')).toArray) ∧ MarksAt w'.heap.size w' (.slice x' N' c') (turnM m 11 n).marks ∧ Below w.heap.size w w' := by
 obtain ⟨g, hg⟩ : ∃ g, w.heap.size = g := ⟨_, rfl⟩
 have hA : AtL ((w.alloc (.cells (msC m (.slice x N cap)).toArray 42)).alloc (.cells (msC z0 nilS).toArray 42)) g 42 (msC m (.slice x N cap)) := by rw [← hg]; exact (AtL.new w _ _).alloc _
 have hR : AtL ((w.alloc (.cells (msC m (.slice x N cap)).toArray 42)).alloc (.cells (msC z0 nilS).toArray 42)) (g + 1) 42 (msC z0 nilS) := by
  have := AtL.new (w.alloc (.cells (msC m (.slice x N cap)).toArray 42)) 42 (msC z0 nilS)
  rwa [World.size_alloc, hg] at this
 have hB : Below g w ((w.alloc (.cells (msC m (.slice x N cap)).toArray 42)).alloc (.cells (msC z0 nilS).toArray 42)) := ((Below.refl _ _).alloc (Nat.le_of_eq hg.symm) _).alloc (by rw [World.size_alloc]; omega) _
 rw [show Below w.heap.size w = Below g w by rw [hg]]
 have hd := hm.dig
 have hk : (a : Int) % 16 = 11 := by omega
 rw [hg] at hM
 replace hg := Lib.hid hg
 replace hA := Lib.hid hA
 replace hB := Lib.hid hB
 replace hR := Lib.hid hR
 replace hM := Lib.hid hM
 go_enter Try.func12, Try.ntmps12
 go_upto_region 1 with fail
 try rw [z0_lit]
 try simp only [hg.out]
 generalize (w.alloc (.cells (msC m (.slice x N cap)).toArray 42)).alloc (.cells (msC z0 nilS).toArray 42) = w1 at hA hB hR ⊢
 obtain ⟨y, hy⟩ : ∃ y, (msC m (.slice x N cap))[48]? = some y := ⟨_, List.getElem?_eq_getElem (by rw [msC_len hd]; decide)⟩
 have cc := hA.out.get hy
 have ff := hA.out.free 48
 have hA2 := hA.out.put 48 (.int .u64 (n % 18446744073709551616))
 have hA3 := Lib.hid (atL_eq hA2 (show _ = msC (turnM m 11 n) (.slice x N cap) from set_bidI _ _ _ hd))
 have hR3 := Lib.hid (hR.out.far (b := g) (by omega) 48 (.int .u64 (n % 18446744073709551616)))
 have hB3 := hB.out.setCell (p := ⟨g, 48, none⟩) (Nat.le_refl _) (.int .u64 (n % 18446744073709551616))
 have htd : (turnM m 11 n).dig.length = 32 := by first | exact hd | (show (m.dig.set 0 _).length = 32; rw [List.length_set]; exact hd)
 have hO := hR3.out.row (putL (msC z0 nilS) 0 (msC (turnM m 11 n) (.slice x N cap)))
 have hO3 := Lib.hid (atL_eq hO (put_msg z0d htd))
 have hB4 := below_row hB3 (g := g + 1) (Nat.le_succ g) (putL (msC z0 nilS) 0 (msC (turnM m 11 n) (.slice x N cap))).toArray
 have hM4 := Lib.hid (RowB.more (RowB.keep hM.out hB4 (Nat.le_refl _)) (Nat.le_of_lt (Nat.lt_trans (Nat.lt_succ_self g) hO.inside)))
 replace hB4 := Lib.hid hB4
 have htm : (turnM m 11 n).marks = m.marks := rfl
 have hld := Lib.hid (fun j u (hu : (msC (turnM m 11 n) (.slice x N cap))[j]? = some u) => (show (w1.setCell ⟨g, 48, none⟩ (.int .u64 (n % 18446744073709551616))).cell? ⟨g, 0 + j, none⟩ = some u by rw [Nat.zero_add]; exact hA3.out.get hu))
 obtain ⟨m', hm'⟩ : ∃ m', turnM m 11 n = m' := ⟨_, rfl⟩
 simp only [hm'] at hld htd hO3 hB4 hM4 htm
 replace hm' := Lib.hid hm'
 clear hA hB hR hM hA2 hA3 hB3 hO
 go_wp2_with (first | (refine wpList_load_part rfl 42 _ rfl g 0 rfl (msC m' (.slice x N cap)) hld.out _ Try.underlying42 rfl (size_msg htd) ?_) | (refine wpList_store_part rfl 42 _ _ rfl (g + 1) 0 (msC m' (.slice x N cap)) rfl rfl 42 (msC z0 nilS) hR3.out (size_msg htd) (less_msg z0d htd) (ms_one rfl) ?_))
 refine bodyPost_ret (ret_array rfl rfl hO3.out _ Try.underlying42 rfl (size_msg htd)) rfl ?_
 exact ⟨x, N, cap, by rw [hm'.out], by rw [hm'.out, htm]; exact hM4.out, hB4.out⟩
set_option maxRecDepth 100000 in
set_option maxHeartbeats 8000000 in
theorem turn12 (m : Ms) (x : Option Addr) (N cap : Nat) (hm : m.ok) (a : Nat) (ha : a % 16 = 12) (n : Int) (hn : I64 n) (w : World) (hM : MarksAt w.heap.size w (.slice x N cap) m.marks) :
 Calls Try.prog 12 #[.agg (msC m (.slice x N cap)).toArray, .int .u8 (a : Int), .int .i64 n] w fun e w' => ∃ x' N' c', e = .returned (.agg (msC (turnM m 12 n) (.slice x' N' c')).toArray) ∧ MarksAt w'.heap.size w' (.slice x' N' c') (turnM m 12 n).marks ∧ Below w.heap.size w w' := by
 obtain ⟨g, hg⟩ : ∃ g, w.heap.size = g := ⟨_, rfl⟩
 have hA : AtL ((w.alloc (.cells (msC m (.slice x N cap)).toArray 42)).alloc (.cells (msC z0 nilS).toArray 42)) g 42 (msC m (.slice x N cap)) := by rw [← hg]; exact (AtL.new w _ _).alloc _
 have hR : AtL ((w.alloc (.cells (msC m (.slice x N cap)).toArray 42)).alloc (.cells (msC z0 nilS).toArray 42)) (g + 1) 42 (msC z0 nilS) := by
  have := AtL.new (w.alloc (.cells (msC m (.slice x N cap)).toArray 42)) 42 (msC z0 nilS)
  rwa [World.size_alloc, hg] at this
 have hB : Below g w ((w.alloc (.cells (msC m (.slice x N cap)).toArray 42)).alloc (.cells (msC z0 nilS).toArray 42)) := ((Below.refl _ _).alloc (Nat.le_of_eq hg.symm) _).alloc (by rw [World.size_alloc]; omega) _
 rw [show Below w.heap.size w = Below g w by rw [hg]]
 have hd := hm.dig
 have hk : (a : Int) % 16 = 12 := by omega
 rw [hg] at hM
 replace hg := Lib.hid hg
 replace hA := Lib.hid hA
 replace hB := Lib.hid hB
 replace hR := Lib.hid hR
 replace hM := Lib.hid hM
 go_enter Try.func12, Try.ntmps12
 go_upto_region 1 with fail
 try rw [z0_lit]
 try simp only [hg.out]
 generalize (w.alloc (.cells (msC m (.slice x N cap)).toArray 42)).alloc (.cells (msC z0 nilS).toArray 42) = w1 at hA hB hR ⊢
 obtain ⟨y, hy⟩ : ∃ y, (msC m (.slice x N cap))[49]? = some y := ⟨_, List.getElem?_eq_getElem (by rw [msC_len hd]; decide)⟩
 have cc := hA.out.get hy
 have ff := hA.out.free 49
 have hA2 := hA.out.put 49 (.int .u64 (n % 18446744073709551616))
 have hA3 := Lib.hid (atL_eq hA2 (show _ = msC (turnM m 12 n) (.slice x N cap) from set_nonceI _ _ _ hd))
 have hR3 := Lib.hid (hR.out.far (b := g) (by omega) 49 (.int .u64 (n % 18446744073709551616)))
 have hB3 := hB.out.setCell (p := ⟨g, 49, none⟩) (Nat.le_refl _) (.int .u64 (n % 18446744073709551616))
 have htd : (turnM m 12 n).dig.length = 32 := by first | exact hd | (show (m.dig.set 0 _).length = 32; rw [List.length_set]; exact hd)
 have hO := hR3.out.row (putL (msC z0 nilS) 0 (msC (turnM m 12 n) (.slice x N cap)))
 have hO3 := Lib.hid (atL_eq hO (put_msg z0d htd))
 have hB4 := below_row hB3 (g := g + 1) (Nat.le_succ g) (putL (msC z0 nilS) 0 (msC (turnM m 12 n) (.slice x N cap))).toArray
 have hM4 := Lib.hid (RowB.more (RowB.keep hM.out hB4 (Nat.le_refl _)) (Nat.le_of_lt (Nat.lt_trans (Nat.lt_succ_self g) hO.inside)))
 replace hB4 := Lib.hid hB4
 have htm : (turnM m 12 n).marks = m.marks := rfl
 have hld := Lib.hid (fun j u (hu : (msC (turnM m 12 n) (.slice x N cap))[j]? = some u) => (show (w1.setCell ⟨g, 49, none⟩ (.int .u64 (n % 18446744073709551616))).cell? ⟨g, 0 + j, none⟩ = some u by rw [Nat.zero_add]; exact hA3.out.get hu))
 obtain ⟨m', hm'⟩ : ∃ m', turnM m 12 n = m' := ⟨_, rfl⟩
 simp only [hm'] at hld htd hO3 hB4 hM4 htm
 replace hm' := Lib.hid hm'
 clear hA hB hR hM hA2 hA3 hB3 hO
 go_wp2_with (first | (refine wpList_load_part rfl 42 _ rfl g 0 rfl (msC m' (.slice x N cap)) hld.out _ Try.underlying42 rfl (size_msg htd) ?_) | (refine wpList_store_part rfl 42 _ _ rfl (g + 1) 0 (msC m' (.slice x N cap)) rfl rfl 42 (msC z0 nilS) hR3.out (size_msg htd) (less_msg z0d htd) (ms_one rfl) ?_))
 refine bodyPost_ret (ret_array rfl rfl hO3.out _ Try.underlying42 rfl (size_msg htd)) rfl ?_
 exact ⟨x, N, cap, by rw [hm'.out], by rw [hm'.out, htm]; exact hM4.out, hB4.out⟩
set_option maxRecDepth 100000 in
set_option maxHeartbeats 8000000 in
theorem turn13 (m : Ms) (x : Option Addr) (N cap : Nat) (hm : m.ok) (a : Nat) (ha : a % 16 = 13) (n : Int) (hn : I64 n) (w : World) (hM : MarksAt w.heap.size w (.slice x N cap) m.marks) :
 Calls Try.prog 12 #[.agg (msC m (.slice x N cap)).toArray, .int .u8 (a : Int), .int .i64 n] w fun e w' => ∃ x' N' c', e = .returned (.agg (msC (turnM m 13 n) (.slice x' N' c')).toArray) ∧ MarksAt w'.heap.size w' (.slice x' N' c') (turnM m 13 n).marks ∧ Below w.heap.size w w' := by
 obtain ⟨g, hg⟩ : ∃ g, w.heap.size = g := ⟨_, rfl⟩
 have hA : AtL ((w.alloc (.cells (msC m (.slice x N cap)).toArray 42)).alloc (.cells (msC z0 nilS).toArray 42)) g 42 (msC m (.slice x N cap)) := by rw [← hg]; exact (AtL.new w _ _).alloc _
 have hR : AtL ((w.alloc (.cells (msC m (.slice x N cap)).toArray 42)).alloc (.cells (msC z0 nilS).toArray 42)) (g + 1) 42 (msC z0 nilS) := by
  have := AtL.new (w.alloc (.cells (msC m (.slice x N cap)).toArray 42)) 42 (msC z0 nilS)
  rwa [World.size_alloc, hg] at this
 have hB : Below g w ((w.alloc (.cells (msC m (.slice x N cap)).toArray 42)).alloc (.cells (msC z0 nilS).toArray 42)) := ((Below.refl _ _).alloc (Nat.le_of_eq hg.symm) _).alloc (by rw [World.size_alloc]; omega) _
 rw [show Below w.heap.size w = Below g w by rw [hg]]
 have hd := hm.dig
 have hk : (a : Int) % 16 = 13 := by omega
 rw [hg] at hM
 replace hg := Lib.hid hg
 replace hA := Lib.hid hA
 replace hB := Lib.hid hB
 replace hR := Lib.hid hR
 replace hM := Lib.hid hM
 go_enter Try.func12, Try.ntmps12
 go_upto_region 1 with fail
 try rw [z0_lit]
 try simp only [hg.out]
 generalize (w.alloc (.cells (msC m (.slice x N cap)).toArray 42)).alloc (.cells (msC z0 nilS).toArray 42) = w1 at hA hB hR ⊢
 obtain ⟨y, hy⟩ : ∃ y, (msC m (.slice x N cap))[50]? = some y := ⟨_, List.getElem?_eq_getElem (by rw [msC_len hd]; decide)⟩
 have cc := hA.out.get hy
 have ff := hA.out.free 50
 have hA2 := hA.out.put 50 (.int .i64 n)
 have hA3 := Lib.hid (atL_eq hA2 (show _ = msC (turnM m 13 n) (.slice x N cap) from set_st _ _ _ hd))
 have hR3 := Lib.hid (hR.out.far (b := g) (by omega) 50 (.int .i64 n))
 have hB3 := hB.out.setCell (p := ⟨g, 50, none⟩) (Nat.le_refl _) (.int .i64 n)
 have htd : (turnM m 13 n).dig.length = 32 := by first | exact hd | (show (m.dig.set 0 _).length = 32; rw [List.length_set]; exact hd)
 have hO := hR3.out.row (putL (msC z0 nilS) 0 (msC (turnM m 13 n) (.slice x N cap)))
 have hO3 := Lib.hid (atL_eq hO (put_msg z0d htd))
 have hB4 := below_row hB3 (g := g + 1) (Nat.le_succ g) (putL (msC z0 nilS) 0 (msC (turnM m 13 n) (.slice x N cap))).toArray
 have hM4 := Lib.hid (RowB.more (RowB.keep hM.out hB4 (Nat.le_refl _)) (Nat.le_of_lt (Nat.lt_trans (Nat.lt_succ_self g) hO.inside)))
 replace hB4 := Lib.hid hB4
 have htm : (turnM m 13 n).marks = m.marks := rfl
 have hld := Lib.hid (fun j u (hu : (msC (turnM m 13 n) (.slice x N cap))[j]? = some u) => (show (w1.setCell ⟨g, 50, none⟩ (.int .i64 n)).cell? ⟨g, 0 + j, none⟩ = some u by rw [Nat.zero_add]; exact hA3.out.get hu))
 obtain ⟨m', hm'⟩ : ∃ m', turnM m 13 n = m' := ⟨_, rfl⟩
 simp only [hm'] at hld htd hO3 hB4 hM4 htm
 replace hm' := Lib.hid hm'
 clear hA hB hR hM hA2 hA3 hB3 hO
 go_wp2_with (first | (refine wpList_load_part rfl 42 _ rfl g 0 rfl (msC m' (.slice x N cap)) hld.out _ Try.underlying42 rfl (size_msg htd) ?_) | (refine wpList_store_part rfl 42 _ _ rfl (g + 1) 0 (msC m' (.slice x N cap)) rfl rfl 42 (msC z0 nilS) hR3.out (size_msg htd) (less_msg z0d htd) (ms_one rfl) ?_))
 refine bodyPost_ret (ret_array rfl rfl hO3.out _ Try.underlying42 rfl (size_msg htd)) rfl ?_
 exact ⟨x, N, cap, by rw [hm'.out], by rw [hm'.out, htm]; exact hM4.out, hB4.out⟩
set_option maxRecDepth 100000 in
set_option maxHeartbeats 8000000 in
theorem turn14 (m : Ms) (x : Option Addr) (N cap : Nat) (hm : m.ok) (a : Nat) (ha : a % 16 = 14) (n : Int) (hn : I64 n) (w : World) (hM : MarksAt w.heap.size w (.slice x N cap) m.marks) :
 Calls Try.prog 12 #[.agg (msC m (.slice x N cap)).toArray, .int .u8 (a : Int), .int .i64 n] w fun e w' => ∃ x' N' c', e = .returned (.agg (msC (turnM m 14 n) (.slice x' N' c')).toArray) ∧ MarksAt w'.heap.size w' (.slice x' N' c') (turnM m 14 n).marks ∧ Below w.heap.size w w' := by
 obtain ⟨g, hg⟩ : ∃ g, w.heap.size = g := ⟨_, rfl⟩
 have hA : AtL ((w.alloc (.cells (msC m (.slice x N cap)).toArray 42)).alloc (.cells (msC z0 nilS).toArray 42)) g 42 (msC m (.slice x N cap)) := by rw [← hg]; exact (AtL.new w _ _).alloc _
 have hR : AtL ((w.alloc (.cells (msC m (.slice x N cap)).toArray 42)).alloc (.cells (msC z0 nilS).toArray 42)) (g + 1) 42 (msC z0 nilS) := by
  have := AtL.new (w.alloc (.cells (msC m (.slice x N cap)).toArray 42)) 42 (msC z0 nilS)
  rwa [World.size_alloc, hg] at this
 have hB : Below g w ((w.alloc (.cells (msC m (.slice x N cap)).toArray 42)).alloc (.cells (msC z0 nilS).toArray 42)) := ((Below.refl _ _).alloc (Nat.le_of_eq hg.symm) _).alloc (by rw [World.size_alloc]; omega) _
 rw [show Below w.heap.size w = Below g w by rw [hg]]
 have hd := hm.dig
 have hk : (a : Int) % 16 = 14 := by omega
 rw [hg] at hM
 replace hg := Lib.hid hg
 replace hA := Lib.hid hA
 replace hB := Lib.hid hB
 replace hR := Lib.hid hR
 replace hM := Lib.hid hM
 go_enter Try.func12, Try.ntmps12
 go_upto_region 1 with fail
 try rw [z0_lit]
 try simp only [hg.out]
 generalize (w.alloc (.cells (msC m (.slice x N cap)).toArray 42)).alloc (.cells (msC z0 nilS).toArray 42) = w1 at hA hB hR ⊢
 obtain ⟨y, hy⟩ : ∃ y, (msC m (.slice x N cap))[51]? = some y := ⟨_, List.getElem?_eq_getElem (by rw [msC_len hd]; decide)⟩
 have cc := hA.out.get hy
 have ff := hA.out.free 51
 have hA2 := hA.out.put 51 (.int .i64 n)
 have hA3 := Lib.hid (atL_eq hA2 (show _ = msC (turnM m 14 n) (.slice x N cap) from set_wn _ _ _ hd))
 have hR3 := Lib.hid (hR.out.far (b := g) (by omega) 51 (.int .i64 n))
 have hB3 := hB.out.setCell (p := ⟨g, 51, none⟩) (Nat.le_refl _) (.int .i64 n)
 have htd : (turnM m 14 n).dig.length = 32 := by first | exact hd | (show (m.dig.set 0 _).length = 32; rw [List.length_set]; exact hd)
 have hO := hR3.out.row (putL (msC z0 nilS) 0 (msC (turnM m 14 n) (.slice x N cap)))
 have hO3 := Lib.hid (atL_eq hO (put_msg z0d htd))
 have hB4 := below_row hB3 (g := g + 1) (Nat.le_succ g) (putL (msC z0 nilS) 0 (msC (turnM m 14 n) (.slice x N cap))).toArray
 have hM4 := Lib.hid (RowB.more (RowB.keep hM.out hB4 (Nat.le_refl _)) (Nat.le_of_lt (Nat.lt_trans (Nat.lt_succ_self g) hO.inside)))
 replace hB4 := Lib.hid hB4
 have htm : (turnM m 14 n).marks = m.marks := rfl
 have hld := Lib.hid (fun j u (hu : (msC (turnM m 14 n) (.slice x N cap))[j]? = some u) => (show (w1.setCell ⟨g, 51, none⟩ (.int .i64 n)).cell? ⟨g, 0 + j, none⟩ = some u by rw [Nat.zero_add]; exact hA3.out.get hu))
 obtain ⟨m', hm'⟩ : ∃ m', turnM m 14 n = m' := ⟨_, rfl⟩
 simp only [hm'] at hld htd hO3 hB4 hM4 htm
 replace hm' := Lib.hid hm'
 clear hA hB hR hM hA2 hA3 hB3 hO
 go_wp2_with (first | (refine wpList_load_part rfl 42 _ rfl g 0 rfl (msC m' (.slice x N cap)) hld.out _ Try.underlying42 rfl (size_msg htd) ?_) | (refine wpList_store_part rfl 42 _ _ rfl (g + 1) 0 (msC m' (.slice x N cap)) rfl rfl 42 (msC z0 nilS) hR3.out (size_msg htd) (less_msg z0d htd) (ms_one rfl) ?_))
 refine bodyPost_ret (ret_array rfl rfl hO3.out _ Try.underlying42 rfl (size_msg htd)) rfl ?_
 exact ⟨x, N, cap, by rw [hm'.out], by rw [hm'.out, htm]; exact hM4.out, hB4.out⟩
set_option maxRecDepth 100000 in
set_option maxHeartbeats 8000000 in
theorem turn15 (m : Ms) (x : Option Addr) (N cap : Nat) (hm : m.ok) (a : Nat) (ha : a % 16 = 15) (n : Int) (hn : I64 n) (w : World) (hM : MarksAt w.heap.size w (.slice x N cap) m.marks) :
 Calls Try.prog 12 #[.agg (msC m (.slice x N cap)).toArray, .int .u8 (a : Int), .int .i64 n] w fun e w' => ∃ x' N' c', e = .returned (.agg (msC (turnM m 15 n) (.slice x' N' c')).toArray) ∧ MarksAt w'.heap.size w' (.slice x' N' c') (turnM m 15 n).marks ∧ Below w.heap.size w w' := by
 obtain ⟨g, hg⟩ : ∃ g, w.heap.size = g := ⟨_, rfl⟩
 have hA : AtL ((w.alloc (.cells (msC m (.slice x N cap)).toArray 42)).alloc (.cells (msC z0 nilS).toArray 42)) g 42 (msC m (.slice x N cap)) := by rw [← hg]; exact (AtL.new w _ _).alloc _
 have hR : AtL ((w.alloc (.cells (msC m (.slice x N cap)).toArray 42)).alloc (.cells (msC z0 nilS).toArray 42)) (g + 1) 42 (msC z0 nilS) := by
  have := AtL.new (w.alloc (.cells (msC m (.slice x N cap)).toArray 42)) 42 (msC z0 nilS)
  rwa [World.size_alloc, hg] at this
 have hB : Below g w ((w.alloc (.cells (msC m (.slice x N cap)).toArray 42)).alloc (.cells (msC z0 nilS).toArray 42)) := ((Below.refl _ _).alloc (Nat.le_of_eq hg.symm) _).alloc (by rw [World.size_alloc]; omega) _
 rw [show Below w.heap.size w = Below g w by rw [hg]]
 have hd := hm.dig
 have hk : (a : Int) % 16 = 15 := by omega
 rw [hg] at hM
 replace hg := Lib.hid hg
 replace hA := Lib.hid hA
 replace hB := Lib.hid hB
 replace hR := Lib.hid hR
 replace hM := Lib.hid hM
 go_enter Try.func12, Try.ntmps12
 go_upto_region 1 with fail
 try rw [z0_lit]
 try simp only [hg.out]
 generalize (w.alloc (.cells (msC m (.slice x N cap)).toArray 42)).alloc (.cells (msC z0 nilS).toArray 42) = w1 at hA hB hR ⊢
 obtain ⟨y, hy⟩ : ∃ y, (msC m (.slice x N cap))[52]? = some y := ⟨_, List.getElem?_eq_getElem (by rw [msC_len hd]; decide)⟩
 have cc := hA.out.get hy
 have ff := hA.out.free 52
 have hA2 := hA.out.put 52 (.int .u64 (n % 18446744073709551616))
 have hA3 := Lib.hid (atL_eq hA2 (show _ = msC (turnM m 15 n) (.slice x N cap) from set_prI _ _ _ hd))
 have hR3 := Lib.hid (hR.out.far (b := g) (by omega) 52 (.int .u64 (n % 18446744073709551616)))
 have hB3 := hB.out.setCell (p := ⟨g, 52, none⟩) (Nat.le_refl _) (.int .u64 (n % 18446744073709551616))
 have htd : (turnM m 15 n).dig.length = 32 := by first | exact hd | (show (m.dig.set 0 _).length = 32; rw [List.length_set]; exact hd)
 have hO := hR3.out.row (putL (msC z0 nilS) 0 (msC (turnM m 15 n) (.slice x N cap)))
 have hO3 := Lib.hid (atL_eq hO (put_msg z0d htd))
 have hB4 := below_row hB3 (g := g + 1) (Nat.le_succ g) (putL (msC z0 nilS) 0 (msC (turnM m 15 n) (.slice x N cap))).toArray
 have hM4 := Lib.hid (RowB.more (RowB.keep hM.out hB4 (Nat.le_refl _)) (Nat.le_of_lt (Nat.lt_trans (Nat.lt_succ_self g) hO.inside)))
 replace hB4 := Lib.hid hB4
 have htm : (turnM m 15 n).marks = m.marks := rfl
 have hld := Lib.hid (fun j u (hu : (msC (turnM m 15 n) (.slice x N cap))[j]? = some u) => (show (w1.setCell ⟨g, 52, none⟩ (.int .u64 (n % 18446744073709551616))).cell? ⟨g, 0 + j, none⟩ = some u by rw [Nat.zero_add]; exact hA3.out.get hu))
 obtain ⟨m', hm'⟩ : ∃ m', turnM m 15 n = m' := ⟨_, rfl⟩
 simp only [hm'] at hld htd hO3 hB4 hM4 htm
 replace hm' := Lib.hid hm'
 clear hA hB hR hM hA2 hA3 hB3 hO
 go_wp2_with (first | (refine wpList_load_part rfl 42 _ rfl g 0 rfl (msC m' (.slice x N cap)) hld.out _ Try.underlying42 rfl (size_msg htd) ?_) | (refine wpList_store_part rfl 42 _ _ rfl (g + 1) 0 (msC m' (.slice x N cap)) rfl rfl 42 (msC z0 nilS) hR3.out (size_msg htd) (less_msg z0d htd) (ms_one rfl) ?_))
 refine bodyPost_ret (ret_array rfl rfl hO3.out _ Try.underlying42 rfl (size_msg htd)) rfl ?_
 exact ⟨x, N, cap, by rw [hm'.out], by rw [hm'.out, htm]; exact hM4.out, hB4.out⟩
end Go.Proofs.Ytpefdmkfmcjfnaa.Df

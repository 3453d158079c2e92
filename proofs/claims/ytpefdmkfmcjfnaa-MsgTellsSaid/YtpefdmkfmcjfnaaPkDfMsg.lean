import Derived.Test.YtpefdmkfmcjfnaaPkDfDig
import Derived.Test.YtpefdmkfmcjfnaaPkMsPDec2

namespace Go.Proofs.Ytpefdmkfmcjfnaa.Df
open Go.RowKit Go.Sort Go.Proofs.Ytpefdmkfmcjfnaa.Mem Go.Proofs.Ytpefdmkfmcjfnaa.Route Go.Proofs.Ytpefdmkfmcjfnaa.Oct Go.Proofs.Ytpefdmkfmcjfnaa.Ms Go.Proofs.Ytpefdmkfmcjfnaa.Part Go.Proofs.Ytpefdmkfmcjfnaa.Mp Go.Proofs.Ytpefdmkfmcjfnaa.Dr Go.Proofs.Ytpefdmkfmcjfnaa.Feas
set_option linter.unusedVariables false
def kindD (d : Dr) : Int := 1 + (d.kd : Int) % 5
def baseM (d : Dr) : Ms := { z0 with kind := kindD d, rnd := (d.n0 : Int) % 16 }
def rqM (d : Dr) : Rq := ⟨(d.n2 : Int) % 1024, (d.n2 : Int) / 64, (d.n3 : Int) % 1024, (d.n3 : Int) / 64, (d.n4 : Int) * 9, (d.n4 : Int) * 9 + (d.n6 : Int) % 999, (d.n5 : Int) * 7, (d.n5 : Int) * 7 + (d.n7 : Int) % 999, 1 + (d.n6 : Int) % 1000, (d.n7 : Int) % 1001⟩
def ocM (d : Dr) : Oc := if d.n1 % 3 = 0 then ⟨3, -1, 0⟩ else ⟨2 + (d.n1 : Int) % 3 / 2 * 2, (d.n2 : Int) % 8, d.b0 % 16777217⟩
def hasM (d : Dr) (c : Nat) : Bool := decide (d.n1 / 2 ^ c % 2 = 1)
def marksM (d : Dr) (c : Nat) : List Mk := ((List.range c).filter (hasM d)).map fun (i : Nat) => ((i : Int), digM d.bs i)
def draftM (d : Dr) : Ms :=
 if kindD d = 1 then { baseM d with req := (d.n1 : Int) % 64, rsv := (d.b0 : Int) % 16777217, rq := rqM d }
 else if kindD d = 2 then { baseM d with car := (d.n1 : Int) % 8, dig := digM d.bs 0 }
 else if kindD d = 3 then { baseM d with marks := marksM d 8 }
 else if kindD d = 4 then { baseM d with car := (d.n1 : Int) % 8, bid := d.b0 % 4294967297, nonce := d.b1 }
 else { baseM d with oc := ocM d }
theorem place_any (n : Nat) (hn : n < 65536) (w : World) : Calls Try.prog 21 #[.int .u16 (n : Int)] w fun e w' => e = .returned (.agg #[.int .i64 ((n : Int) % 1024), .int .i64 ((n : Int) / 64)]) ∧ Below w.heap.size w w' := by
 have hA := AtL.new w 31 [.int .i64 0, .int .i64 0]
 have hB : Below w.heap.size w (w.alloc (.cells #[.int .i64 0, .int .i64 0] 31)) := (Below.refl _ _).alloc (Nat.le_refl _) _
 have hA2 := hA.row (putL [.int .i64 0, .int .i64 0] 0 [.int .i64 ((n : Int) % 1024), .int .i64 ((n : Int) / 64)])
 have hB2 := Lib.hid (below_row hB (Nat.le_refl _) (putL [.int .i64 0, .int .i64 0] 0 [.int .i64 ((n : Int) % 1024), .int .i64 ((n : Int) / 64)]).toArray)
 have hsz := Lib.hid (show (Try.prog.info? 31).map (·.size) = some ([Value.int .i64 ((n : Int) % 1024), .int .i64 ((n : Int) / 64)]).length by kernel_rfl)
 have h1c := Lib.hid (show ∀ v ∈ [Value.int .i64 ((n : Int) % 1024), .int .i64 ((n : Int) / 64)], v.oneCell' = true by intro v hv; simp at hv; rcases hv with rfl | rfl <;> rfl)
 have hn' : (n : Int) < 65536 := by omega
 replace hA := Lib.hid hA
 replace hA2 := Lib.hid hA2
 go_enter Try.func21, Try.ntmps21
 go_wp2_with (refine wpList_store_part rfl 31 _ _ rfl w.heap.size 0 [.int .i64 ((n : Int) % 1024), .int .i64 ((n : Int) / 64)] rfl rfl 31 [.int .i64 0, .int .i64 0] hA.out hsz.out (Nat.le_refl _) h1c.out ?_)
 refine bodyPost_ret (ret_array rfl rfl hA2.out _ Try.underlying31 rfl hsz.out) rfl ?_
 exact ⟨rfl, hB2.out⟩
structure Sd (n p q r : Nat) (d : Dr) (x : Option Addr) (L cap : Nat) (w : World) (m : Ms) (v : Value) (W : World) : Prop where
 dr : At W n 28 (drC d (.slice x L cap)).toArray
 num : At W q 23 (drN d).toArray
 res : AtL W p 42 (msC z0 nilS)
 msg : AtL W r 42 (msC m v)
 bel : Below w.heap.size w W
 byt : BytesAt n W (.slice x L cap) d.bs
 base : w.heap.size = n
 ord : n < p ∧ p < q ∧ q < r
theorem Sd.below {n p q r : Nat} {d : Dr} {x : Option Addr} {L cap : Nat} {w W V : World} {m : Ms} {v : Value} (h : Sd n p q r d x L cap w m v W) (hb : Below W.heap.size W V) : Sd n p q r d x L cap w m v V :=
 ⟨h.dr.keep hb h.dr.inside, h.num.keep hb h.num.inside, h.res.on hb, h.msg.on hb, h.bel.trans (hb.mono h.bel.size), RowB.keep h.byt hb (Nat.le_of_lt h.dr.inside), h.base, h.ord⟩
theorem Sd.put {n p q r : Nat} {d : Dr} {x : Option Addr} {L cap : Nat} {w W : World} {m m' : Ms} {v v' : Value} (h : Sd n p q r d x L cap w m v W) (i : Nat) (y : Value) (he : (msC m v).set i y = msC m' v') : Sd n p q r d x L cap w m' v' (W.setCell ⟨r, i, none⟩ y) := by
 have ho := h.ord
 exact ⟨h.dr.far (by omega) i y, h.num.far (by omega) i y, h.res.far (by omega) i y, atL_eq (h.msg.put i y) he, below_set h.bel (by have := h.base; omega) i y, RowB.keep h.byt (below_set (Below.refl n W) (by omega) i y) (Nat.le_refl _), h.base, h.ord⟩
theorem Sd.row {n p q r : Nat} {d : Dr} {x : Option Addr} {L cap : Nat} {w W : World} {m m' : Ms} {v v' : Value} (h : Sd n p q r d x L cap w m v W) (i : Nat) (cs : List Value) (he : putL (msC m v) i cs = msC m' v') : Sd n p q r d x L cap w m' v' (W.setRow r (putL (msC m v) i cs).toArray) := by
 have ho := h.ord
 exact ⟨(setRow_other W r n _ (by omega)).trans h.dr, (setRow_other W r q _ (by omega)).trans h.num, h.res.rowFar (by omega) _, atL_eq (h.msg.row _) he, below_row h.bel (by have := h.base; omega) _, RowB.keep h.byt (below_row (Below.refl n W) (by omega) _) (Nat.le_refl _), h.base, h.ord⟩
theorem digest_lit (d : Dr) (x : Option Addr) (L cap : Nat) (Fi : Int) (F : Nat) (hFi : Fi = (F : Int)) (hF : F ≤ 7) (w : World) (hb : BytesAt w.heap.size w (.slice x L cap) d.bs) :
 Calls Try.prog 22 #[.agg #[.int .u8 (d.kd : Int), .int .u16 (d.n0 : Int), .int .u16 (d.n1 : Int), .int .u16 (d.n2 : Int), .int .u16 (d.n3 : Int), .int .u16 (d.n4 : Int), .int .u16 (d.n5 : Int), .int .u16 (d.n6 : Int), .int .u16 (d.n7 : Int), .int .u64 (d.b0 : Int), .int .u64 (d.b1 : Int), .slice x L cap], .int .i64 Fi] w fun e w' => e = .returned (.agg ((digM d.bs F).map u8V).toArray) ∧ Below w.heap.size w w' := digest_any d x L cap Fi F hFi hF w hb
theorem kind_cases (d : Dr) : kindD d = 1 ∨ kindD d = 2 ∨ kindD d = 3 ∨ kindD d = 4 ∨ kindD d = 5 := by unfold kindD; omega
theorem Sd.low {n p q r : Nat} {d : Dr} {x : Option Addr} {L cap : Nat} {w W V : World} {m : Ms} {v : Value} (h : Sd n p q r d x L cap w m v W) (hb : Below (r + 1) W V) : Sd n p q r d x L cap w m v V := by
 have ho := h.ord
 have hbs := h.base
 exact ⟨h.dr.keep hb (by omega), h.num.keep hb (by omega), h.res.keep hb (by omega), h.msg.keep hb (by omega), h.bel.trans (hb.mono (by omega)), RowB.keep h.byt hb (by omega), h.base, h.ord⟩
theorem Sd.but {n p q r : Nat} {d : Dr} {x : Option Addr} {L cap : Nat} {w W V : World} {m m' : Ms} {v v' : Value} (h : Sd n p q r d x L cap w m v W) (hb : But r W V) (hm : AtL V r 42 (msC m' v')) : Sd n p q r d x L cap w m' v' V := by
 have ho := h.ord
 have hbs := h.base
 have hbn : Below n W V := ⟨hb.os, hb.tape, hb.output, hb.size, fun k hk => hb.block k (by have := h.dr.inside; omega) (by omega)⟩
 exact ⟨hb.at h.dr (by omega), hb.at h.num (by omega), hb.at h.res (by omega), hm, hb.below h.bel h.bel.size (by omega), RowB.keep h.byt hbn (Nat.le_refl _), h.base, h.ord⟩
theorem Sd.byt_at {n p q r : Nat} {d : Dr} {x : Option Addr} {L cap : Nat} {w W V : World} {m : Ms} {v : Value} (h : Sd n p q r d x L cap w m v W) (hb : Below W.heap.size W V) : BytesAt V.heap.size V (.slice x L cap) d.bs :=
 (RowB.keep h.byt hb (Nat.le_of_lt h.dr.inside)).more (Nat.le_trans (Nat.le_of_lt h.dr.inside) hb.size)
set_option maxRecDepth 100000 in
set_option maxHeartbeats 16000000 in
theorem msg_any (d : Dr) (hd : d.ok) (x : Option Addr) (L cap : Nat) (w : World) (hb : BytesAt w.heap.size w (.slice x L cap) d.bs) :
 Calls Try.prog 10 #[.agg (drC d (.slice x L cap)).toArray] w fun e w' => ∃ y N c, e = .returned (.agg (msC (draftM d) (.slice y N c)).toArray) ∧ OwnM w.heap.size w' (.slice y N c) (draftM d).marks ∧ Below w.heap.size w w' := by
 obtain ⟨n, hn⟩ : ∃ n, w.heap.size = n := ⟨_, rfl⟩
 have hD : At ((w.alloc (.cells (drC d (.slice x L cap)).toArray 28)).alloc (.cells (msC z0 nilS).toArray 42)) n 28 (drC d (.slice x L cap)).toArray := by rw [← hn]; exact (At.new w _ _).alloc _
 have hR : AtL ((w.alloc (.cells (drC d (.slice x L cap)).toArray 28)).alloc (.cells (msC z0 nilS).toArray 42)) (n + 1) 42 (msC z0 nilS) := by
  have := AtL.new (w.alloc (.cells (drC d (.slice x L cap)).toArray 28)) 42 (msC z0 nilS)
  rwa [World.size_alloc, hn] at this
 have hB : Below w.heap.size w ((w.alloc (.cells (drC d (.slice x L cap)).toArray 28)).alloc (.cells (msC z0 nilS).toArray 42)) := ((Below.refl _ _).alloc (Nat.le_refl _) _).alloc (by simp) _
 have hs2 : ((w.alloc (.cells (drC d (.slice x L cap)).toArray 28)).alloc (.cells (msC z0 nilS).toArray 42)).heap.size = n + 2 := by simp [hn]
 obtain ⟨X, hX⟩ : ∃ X, draftM d = X := ⟨_, rfl⟩
 rw [hX]
 replace hX := Lib.hid hX
 go_enter Try.func10, Try.ntmps10
 go_upto_region 1 with fail
 rw [z0_lit]
 generalize (w.alloc (.cells (drC d (.slice x L cap)).toArray 28)).alloc (.cells (msC z0 nilS).toArray 42) = W at hD hR hB hs2 ⊢
 have hbW := hb.keep hB (Nat.le_refl _)
 rw [hn] at hbW
 try simp only [hn]
 have hnH := Lib.hid hn
 have e0 : W.cell? ⟨n, 0, none⟩ = some (.int .u8 (d.kd : Int)) := (At.cell hD 0).trans rfl
 have e1 : W.cell? ⟨n, 1, none⟩ = some (.int .u16 (d.n0 : Int)) := (At.cell hD 1).trans rfl
 have e2 : W.cell? ⟨n, 2, none⟩ = some (.int .u16 (d.n1 : Int)) := (At.cell hD 2).trans rfl
 have e3 : W.cell? ⟨n, 3, none⟩ = some (.int .u16 (d.n2 : Int)) := (At.cell hD 3).trans rfl
 have e4 : W.cell? ⟨n, 4, none⟩ = some (.int .u16 (d.n3 : Int)) := (At.cell hD 4).trans rfl
 have e5 : W.cell? ⟨n, 5, none⟩ = some (.int .u16 (d.n4 : Int)) := (At.cell hD 5).trans rfl
 have e6 : W.cell? ⟨n, 6, none⟩ = some (.int .u16 (d.n5 : Int)) := (At.cell hD 6).trans rfl
 have e7 : W.cell? ⟨n, 7, none⟩ = some (.int .u16 (d.n6 : Int)) := (At.cell hD 7).trans rfl
 have e8 : W.cell? ⟨n, 8, none⟩ = some (.int .u16 (d.n7 : Int)) := (At.cell hD 8).trans rfl
 have hN := At.new W 23 (drN d).toArray
 have hB2 := hB.alloc hB.size (.cells (drN d).toArray 23)
 have hD2 := hD.alloc (.cells (drN d).toArray 23)
 have hR2 := hR.alloc (.cells (drN d).toArray 23)
 rw [hs2] at hN
 replace hD2 := Lib.hid hD2
 replace hR2 := Lib.hid hR2
 replace hB2 := Lib.hid hB2
 replace hN := Lib.hid hN
 clear hD hR hB hn
 go_upto_region 2 with fail
 rw [show (#[.int .u16 (d.n0 : Int), .int .u16 (d.n1 : Int), .int .u16 (d.n2 : Int), .int .u16 (d.n3 : Int), .int .u16 (d.n4 : Int), .int .u16 (d.n5 : Int), .int .u16 (d.n6 : Int), .int .u16 (d.n7 : Int)] : Array Value) = (drN d).toArray from rfl]
 have hzN : (W.alloc (.cells (drN d).toArray 23)).heap.size = n + 3 := by rw [World.size_alloc, hs2]
 have hbN := RowB.keep hbW ((Below.refl n W).alloc (by omega) (.cells (drN d).toArray 23)) (Nat.le_refl _)
 generalize W.alloc (.cells (drN d).toArray 23) = W2 at hN hD2 hR2 hB2 hzN hbN ⊢
 clear e0 e1 e2 e3 e4 e5 e6 e7 e8 hbW hb
 obtain ⟨p, hp⟩ : ∃ p, n + 1 = p := ⟨_, rfl⟩
 obtain ⟨q, hq⟩ : ∃ q, n + 2 = q := ⟨_, rfl⟩
 obtain ⟨r, hr⟩ : ∃ r, n + 3 = r := ⟨_, rfl⟩
 rw [hp] at hR2
 rw [hq] at hN
 rw [hr] at hzN
 try simp only [hp, hq]
 have hO : AtL (W2.alloc (.cells (msC z0 nilS).toArray 42)) r 42 (msC z0 nilS) := by rw [← hzN]; exact AtL.new W2 _ _
 have hbd : (baseM d).dig.length = 32 := rfl
 have hS : Sd n p q r d x L cap w (baseM d) nilS ((W2.alloc (.cells (msC z0 nilS).toArray 42)).setRow r (putL (msC z0 nilS) 0 (msC (baseM d) nilS)).toArray) :=
  ⟨(setRow_other _ r n _ (by omega)).trans (hD2.out.alloc _), (setRow_other _ r q _ (by omega)).trans (hN.out.alloc _), (hR2.out.alloc _).rowFar (by omega) _, atL_eq (hO.row _) (put_msg z0d hbd), below_row (hB2.out.alloc hB2.out.size _) (by have := hnH.out; omega) _, RowB.keep hbN (below_row ((Below.refl n W2).alloc (by omega) _) (by omega) _) (Nat.le_refl _), hnH.out, by omega⟩
 have k0 : W2.cell? ⟨n, 0, none⟩ = some (.int .u8 (d.kd : Int)) := (At.cell hD2.out 0).trans rfl
 have k1 : W2.cell? ⟨q, 0, none⟩ = some (.int .u16 (d.n0 : Int)) := (At.cell hN.out 0).trans rfl
 have hb2 : Try.prog.built 42 [(0, .int .i64 (1 + (d.kd : Int) % 5)), (1, .int .i64 ((d.n0 : Int) % 16))] = some (msC (baseM d) nilS).toArray := by kernel_rfl
 have hkd : (d.kd : Int) < 256 := by have := hd.kd; omega
 have hn0b : (d.n0 : Int) < 65536 := by have := hd.n0; omega
 rw [← hzN] at hO
 replace hO := Lib.hid hO
 replace hS := Lib.hid hS
 replace hzN := Lib.hid hzN
 replace hb2 := Lib.hid hb2
 clear hN hD2 hR2 hB2 hbN hp hq hr
 go_upto_region 3 with (first | (refine wpList_built2 rfl 42 0 1 _ _ rfl _ _ rfl rfl _ hb2.out ?_) | (rw [z0_lit]; refine wpList_store_part rfl 42 _ _ rfl W2.heap.size 0 (msC (baseM d) nilS) rfl rfl 42 (msC z0 nilS) hO.out (size_msg hbd) (less_msg z0d hbd) (ms_one rfl) ?_))
 try simp only [Act.put]
 rw [hzN.out]
 generalize (W2.alloc (.cells (msC z0 nilS).toArray 42)).setRow r (putL (msC z0 nilS) 0 (msC (baseM d) nilS)).toArray = W3 at hS ⊢
 clear k0 k1 hb2 hO hzN hs2
 obtain ⟨k, hk⟩ : ∃ k, kindD d = k := ⟨_, rfl⟩
 have hk5 := kind_cases d
 rw [hk] at hk5
 have c0 : W3.cell? ⟨r, 0, none⟩ = some (.int .i64 k) := by rw [hS.out.msg.get ms_kind, ← hk]; rfl
 obtain ⟨Z, hZ⟩ : ∃ Z, baseM d = Z := ⟨_, rfl⟩
 rw [hZ] at hS hbd
 have hZH := Lib.hid hZ
 have hkH := Lib.hid hk
 clear hZ hk hkd hn0b
 rcases hk5 with rfl | rfl | rfl | rfl | rfl
 · skip
   have hS2 := hS.out
   have hO2 := hS2.msg
   have hZ0 : ∀ ys, ZM (fun done => { Z with req := if done 10 = true then (d.n1 : Int) % 64 else Z.req }) r (fun _ => false) ys W3 := fun ys => by simpa [ZM] using hO2
   obtain ⟨ho1, ho2, ho3⟩ := hS2.ord
   have hqr : q ≠ r := by omega
   have hnr : n ≠ r := by omega
   have hb1 : (d.n1 : Int) ≤ 65535 := by have := hd.n1; omega
   have hb0 : (d.b0 : Int) ≤ 18446744073709551615 := by have := hd.b0; omega
   have hw0 : wrap64 ((d.b0 : Int) % 16777217) = (d.b0 : Int) % 16777217 := by unfold wrap64; omega
   replace hO2 := Lib.hid hO2
   clear hS
   go_upto_region 8 with fail
   clear c0
   refine Sched.wp_region_sched 11 (fun W W' => But r W W') (Vv [some (.pointer (some ⟨q, 1, none⟩)), some (.int .u16 (d.n1 : Int)), some (.int .u16 ((d.n1 : Int) % 64)), some (.int .i64 ((d.n1 : Int) % 64)), some (.pointer (some ⟨n, 9, none⟩)), some (.pointer (some ⟨n, 9, none⟩)), some (.int .u64 (d.b0 : Int)), some (.int .u64 ((d.b0 : Int) % 16777217)), some (.int .i64 ((d.b0 : Int) % 16777217)), some (.pointer (some ⟨r, 3, none⟩)), none]) (ZM (fun done => { Z with req := if done 10 = true then (d.n1 : Int) % 64 else Z.req }) r) (by kernel_rfl) (by kernel_rfl) (by kernel_rfl) (fun h1 h2 => h1.trans h2) (fun h _ => h) ⟨rfl, rfl, rfl, Nat.le_refl _, fun _ _ _ => rfl⟩ (fun ys => hZ0 ys) (Sched.StepsA.steps (by kernel_rfl) ?hSA) ?hQA
   case hSA =>
    simp only [List.take_succ_cons, List.take_zero]
    refine ⟨?_, ?_, ?_, ?_, ?_, ?_, ?_, ?_, ?_, ?_, ?_, trivial⟩
    · intro ys done W aa hE hn hF hD hZ hG hO
      replace hE : But r W3 W := hE
      have o3 := hO 3 (by kernel_rfl)
      replace o3 : aa.tmps[3]? = some (.pointer (some ⟨q, 0, none⟩)) := o3
      go_wp2_with fail
      exact ⟨_, rfl, But.refl _ _, Vv.val rfl rfl, ZM.light hZ (by simp [Sched.mark])⟩
    · intro ys done W aa hE hn hF hD hZ hG hO
      replace hE : But r W3 W := hE
      have v0 := (hF 0 (by decide) (hD 0 (by kernel_rfl))).eq rfl
      have g0 := hG 0 47 rfl (Nat.le_of_ble_eq_true rfl)
      rw [v0] at g0
      have pc : W.cell? ⟨q, 1, none⟩ = some (.int .u16 (d.n1 : Int)) := (At.cell (hE.at hS2.num hqr) 1).trans rfl
      go_wp2_with fail
      exact ⟨_, rfl, But.refl _ _, Vv.val rfl rfl, ZM.light hZ (by simp [Sched.mark])⟩
    · intro ys done W aa hE hn hF hD hZ hG hO
      replace hE : But r W3 W := hE
      have v1 := (hF 1 (by decide) (hD 1 (by kernel_rfl))).eq rfl
      have g1 := hG 1 48 rfl (Nat.le_of_ble_eq_true rfl)
      rw [v1] at g1
      go_wp2_with fail
      exact ⟨_, rfl, But.refl _ _, Vv.val rfl rfl, ZM.light hZ (by simp [Sched.mark])⟩
    · intro ys done W aa hE hn hF hD hZ hG hO
      replace hE : But r W3 W := hE
      have v2 := (hF 2 (by decide) (hD 2 (by kernel_rfl))).eq rfl
      have g2 := hG 2 49 rfl (Nat.le_of_ble_eq_true rfl)
      rw [v2] at g2
      go_wp2_with fail
      exact ⟨_, rfl, But.refl _ _, Vv.val rfl rfl, ZM.light hZ (by simp [Sched.mark])⟩
    · intro ys done W aa hE hn hF hD hZ hG hO
      replace hE : But r W3 W := hE
      have o1 := hO 1 (by kernel_rfl)
      replace o1 : aa.tmps[1]? = some (.pointer (some ⟨n, 0, none⟩)) := o1
      go_wp2_with fail
      exact ⟨_, rfl, But.refl _ _, Vv.val rfl rfl, ZM.light hZ (by simp [Sched.mark])⟩
    · intro ys done W aa hE hn hF hD hZ hG hO
      replace hE : But r W3 W := hE
      have v4 := (hF 4 (by decide) (hD 4 (by kernel_rfl))).eq rfl
      have g4 := hG 4 51 rfl (Nat.le_of_ble_eq_true rfl)
      rw [v4] at g4
      go_wp2_with fail
      exact ⟨_, rfl, But.refl _ _, Vv.val rfl rfl, ZM.light hZ (by simp [Sched.mark])⟩
    · intro ys done W aa hE hn hF hD hZ hG hO
      replace hE : But r W3 W := hE
      have v5 := (hF 5 (by decide) (hD 5 (by kernel_rfl))).eq rfl
      have g5 := hG 5 52 rfl (Nat.le_of_ble_eq_true rfl)
      rw [v5] at g5
      have pc : W.cell? ⟨n, 9, none⟩ = some (.int .u64 (d.b0 : Int)) := (At.cell (hE.at hS2.dr hnr) 9).trans rfl
      go_wp2_with fail
      exact ⟨_, rfl, But.refl _ _, Vv.val rfl rfl, ZM.light hZ (by simp [Sched.mark])⟩
    · intro ys done W aa hE hn hF hD hZ hG hO
      replace hE : But r W3 W := hE
      have v6 := (hF 6 (by decide) (hD 6 (by kernel_rfl))).eq rfl
      have g6 := hG 6 53 rfl (Nat.le_of_ble_eq_true rfl)
      rw [v6] at g6
      go_wp2_with fail
      exact ⟨_, rfl, But.refl _ _, Vv.val rfl rfl, ZM.light hZ (by simp [Sched.mark])⟩
    · intro ys done W aa hE hn hF hD hZ hG hO
      replace hE : But r W3 W := hE
      have v7 := (hF 7 (by decide) (hD 7 (by kernel_rfl))).eq rfl
      have g7 := hG 7 54 rfl (Nat.le_of_ble_eq_true rfl)
      rw [v7] at g7
      go_wp2_with fail
      exact ⟨_, rfl, But.refl _ _, Vv.val rfl rfl, ZM.light hZ (by simp [Sched.mark])⟩
    · intro ys done W aa hE hn hF hD hZ hG hO
      replace hE : But r W3 W := hE
      have o4 := hO 4 (by kernel_rfl)
      replace o4 : aa.tmps[4]? = some (.pointer (some ⟨r, 0, none⟩)) := o4
      go_wp2_with fail
      exact ⟨_, rfl, But.refl _ _, Vv.val rfl rfl, ZM.light hZ (by simp [Sched.mark])⟩
    · intro ys done W aa hE hn hF hD hZ hG hO
      replace hE : But r W3 W := hE
      have v9 := (hF 9 (by decide) (hD 9 (by kernel_rfl))).eq rfl
      have g9 := hG 9 56 rfl (Nat.le_of_ble_eq_true rfl)
      rw [v9] at g9
      have v3 := (hF 3 (by decide) (hD 3 (by kernel_rfl))).eq rfl
      have g3 := hG 3 50 rfl (Nat.le_of_ble_eq_true rfl)
      rw [v3] at g3
      have hZc : AtL W r 42 (msC ({ Z with req := if done 10 = true then (d.n1 : Int) % 64 else Z.req }) nilS) := hZ
      have cc := hZc.cell 3
      have ff := hZc.free 3
      have hnew := atL_eq (hZc.put 3 (.int .i64 ((d.n1 : Int) % 64))) (show (msC ({ Z with req := if done 10 = true then (d.n1 : Int) % 64 else Z.req }) nilS).set 3 (.int .i64 ((d.n1 : Int) % 64)) = msC { ({ Z with req := if done 10 = true then (d.n1 : Int) % 64 else Z.req } : Ms) with req := (d.n1 : Int) % 64 } nilS from rfl)
      obtain ⟨u, hu⟩ : ∃ u, (msC ({ Z with req := if done 10 = true then (d.n1 : Int) % 64 else Z.req }) nilS)[3]? = some u := ⟨_, List.getElem?_eq_getElem (by rw [msC_len (by exact hbd)]; decide)⟩
      rw [hu] at cc
      replace hnew := Lib.hid hnew
      clear hZc hu hZ hF hD hG hO
      go_wp2_with fail
      exact ⟨But.set _ _ _ _, undef, Vv.any rfl, by simpa [ZM, Sched.mark] using hnew.out⟩
   case hQA =>
    intro ys W4 hE hV hZ
    obtain ⟨done, hdn, hZz⟩ := hZ
    replace hE : But r W3 W4 := hE
    have hO4 : AtL W4 r 42 (msC ({ Z with req := (d.n1 : Int) % 64 }) nilS) := by
     have := hZz
     simpa [ZM, hdn 10 (by decide)] using this
    have hS4 : Sd n p q r d x L cap w ({ Z with req := (d.n1 : Int) % 64 }) nilS W4 := hS2.but hE hO4
    have v8 := (hV 8 (by decide)).eq rfl
    simp only [List.take_succ_cons, List.take_zero, List.drop_succ_cons, List.drop_zero, Sched.fill, Act.put, v8]
    clear hE hV hdn hZz hZ0 hS2 hO4 hO2 v8
    go_simp
    have cc4 := hS4.msg.cell 4
    have ff4 := hS4.msg.free 4
    obtain ⟨u4c, hu4⟩ : ∃ u, (msC ({ Z with req := (d.n1 : Int) % 64 }) (nilS))[4]? = some u := ⟨_, List.getElem?_eq_getElem (by rw [msC_len (by exact hbd)]; decide)⟩
    rw [hu4] at cc4
    have hS5 := hS4.put (m' := { ({ Z with req := (d.n1 : Int) % 64 } : Ms) with rsv := (d.b0 : Int) % 16777217 }) (v' := nilS) 4 (.int .i64 ((d.b0 : Int) % 16777217)) (show (msC ({ Z with req := (d.n1 : Int) % 64 }) (nilS)).set 4 (.int .i64 ((d.b0 : Int) % 16777217)) = msC ({ ({ Z with req := (d.n1 : Int) % 64 } : Ms) with rsv := (d.b0 : Int) % 16777217 }) (nilS) from rfl)
    clear hu4
    replace hS5 := Lib.hid hS5
    clear hS4
    go_upto_region 9 with fail
    generalize W4.setCell ⟨r, 4, none⟩ (.int .i64 ((d.b0 : Int) % 16777217)) = W3 at hS5 ⊢
    have hS2 := hS5.out
    have t2 : W3.cell? ⟨q, 2, none⟩ = some (.int .u16 (d.n2 : Int)) := (At.cell hS2.num 2).trans rfl
    have u2 := cell_regrown t2
    have hb2 : (d.n2 : Int) ≤ 65535 := by have := hd.n2; omega
    have t3 : W3.cell? ⟨q, 3, none⟩ = some (.int .u16 (d.n3 : Int)) := (At.cell hS2.num 3).trans rfl
    have u3 := cell_regrown t3
    have hb3 : (d.n3 : Int) ≤ 65535 := by have := hd.n3; omega
    have t4 : W3.cell? ⟨q, 4, none⟩ = some (.int .u16 (d.n4 : Int)) := (At.cell hS2.num 4).trans rfl
    have u4 := cell_regrown t4
    have hb4 : (d.n4 : Int) ≤ 65535 := by have := hd.n4; omega
    have t5 : W3.cell? ⟨q, 5, none⟩ = some (.int .u16 (d.n5 : Int)) := (At.cell hS2.num 5).trans rfl
    have u5 := cell_regrown t5
    have hb5 : (d.n5 : Int) ≤ 65535 := by have := hd.n5; omega
    have t6 : W3.cell? ⟨q, 6, none⟩ = some (.int .u16 (d.n6 : Int)) := (At.cell hS2.num 6).trans rfl
    have u6 := cell_regrown t6
    have hb6 : (d.n6 : Int) ≤ 65535 := by have := hd.n6; omega
    have t7 : W3.cell? ⟨q, 7, none⟩ = some (.int .u16 (d.n7 : Int)) := (At.cell hS2.num 7).trans rfl
    have u7 := cell_regrown t7
    have hb7 : (d.n7 : Int) ≤ 65535 := by have := hd.n7; omega
    clear cc4 ff4
    refine wp_region_quiet_below (by kernel_rfl) (by kernel_rfl) ?_
    repeat (go_big_quiet_step (fail))
    refine wpQuiet_nil ?_
    rintro W4' ⟨⟨dq, osq⟩, rfl⟩
    have hS4 := hS2.below (below_regrown W3 dq osq)
    dsimp only
    clear hS5 hS2 t2 u2 t3 u3 t4 u4 t5 u5 t6 u6 t7 u7
    generalize grow (redrawn W3 dq) osq = W3 at hS4 ⊢
    have hS2 := hS4
    have t2 : W3.cell? ⟨q, 2, none⟩ = some (.int .u16 (d.n2 : Int)) := (At.cell hS2.num 2).trans rfl
    have u2 := cell_regrown t2
    have hb2 : (d.n2 : Int) ≤ 65535 := by have := hd.n2; omega
    have t3 : W3.cell? ⟨q, 3, none⟩ = some (.int .u16 (d.n3 : Int)) := (At.cell hS2.num 3).trans rfl
    have u3 := cell_regrown t3
    have hb3 : (d.n3 : Int) ≤ 65535 := by have := hd.n3; omega
    have t6 : W3.cell? ⟨q, 6, none⟩ = some (.int .u16 (d.n6 : Int)) := (At.cell hS2.num 6).trans rfl
    have u6 := cell_regrown t6
    have hb6 : (d.n6 : Int) ≤ 65535 := by have := hd.n6; omega
    have t7 : W3.cell? ⟨q, 7, none⟩ = some (.int .u16 (d.n7 : Int)) := (At.cell hS2.num 7).trans rfl
    have u7 := cell_regrown t7
    have hb7 : (d.n7 : Int) ≤ 65535 := by have := hd.n7; omega
    have cP2 := fun dd os => Calls.regrown_of (place_any d.n2 hd.n2 (grow (redrawn W3 dd) os))
    have cP3 := fun dd os => Calls.regrown_of (place_any d.n3 hd.n3 (grow (redrawn W3 dd) os))
    go_upto_region 10 with fail
    refine Tail.wp_region_below_tail 32 (by kernel_rfl) (by kernel_rfl) (by kernel_rfl) ?_
    simp only [List.take_succ_cons, List.take_zero, List.drop_succ_cons, List.drop_zero]
    repeat (go_big_quiet_step (first | with_reducible exact cP2 _ _ | with_reducible exact cP3 _ _))
    refine wpQuiet_nil ?_
    intro _ hw'
    obtain ⟨⟨dq2, osq2⟩, hw''⟩ := hw'
    subst hw''
    have hS6 := hS2.below (below_regrown W3 dq2 osq2)
    clear cP2 cP3 hS4 hS2 t2 u2 t3 u3 t6 u6 t7 u7
    generalize grow (redrawn W3 dq2) osq2 = W4 at hS6 ⊢
    have hP := Lib.hid hS6.msg
    have hS := Lib.hid (hS6.row (m' := { ({ ({ Z with req := (d.n1 : Int) % 64 } : Ms) with rsv := (d.b0 : Int) % 16777217 } : Ms) with rq := rqM d }) (v' := nilS) 5 (rqC (rqM d)) (set_rq _ _ _))
    clear hS6
    go_upto_region 21 with (refine wpList_store_part rfl 35 _ _ rfl r 5 (rqC (rqM d)) rfl rfl 42 (msC ({ ({ Z with req := (d.n1 : Int) % 64 } : Ms) with rsv := (d.b0 : Int) % 16777217 }) nilS) hP.out (rq_size _) (by rw [msC_len (by exact hbd)]; exact (by decide : 15 ≤ 53)) (one_rq _) ?_)
    try simp only [Act.put]
    clear hP
    generalize W4.setRow r (putL (msC ({ ({ Z with req := (d.n1 : Int) % 64 } : Ms) with rsv := (d.b0 : Int) % 16777217 }) nilS) 5 (rqC (rqM d))).toArray = W5 at hS ⊢
    have hdg : ({ ({ ({ Z with req := (d.n1 : Int) % 64 } : Ms) with rsv := (d.b0 : Int) % 16777217 } : Ms) with rq := rqM d }).dig.length = 32 := by exact hbd
    have hi53 := Lib.hid (size_msg (m := { ({ ({ Z with req := (d.n1 : Int) % 64 } : Ms) with rsv := (d.b0 : Int) % 16777217 } : Ms) with rq := rqM d }) (v := nilS) hdg)
    have hld := Lib.hid (fun j u (hu : (msC ({ ({ ({ Z with req := (d.n1 : Int) % 64 } : Ms) with rsv := (d.b0 : Int) % 16777217 } : Ms) with rq := rqM d }) (nilS))[j]? = some u) => (show W5.cell? ⟨r, 0 + j, none⟩ = some u by rw [Nat.zero_add]; exact hS.out.msg.get hu))
    have hR4 := Lib.hid (atL_eq (hS.out.res.row (putL (msC z0 nilS) 0 (msC ({ ({ ({ Z with req := (d.n1 : Int) % 64 } : Ms) with rsv := (d.b0 : Int) % 16777217 } : Ms) with rq := rqM d }) (nilS)))) (put_msg z0d hdg))
    have hB4 := Lib.hid (below_row hS.out.bel (g := p) (by have := hS.out.base; have := hS.out.ord; omega) (putL (msC z0 nilS) 0 (msC ({ ({ ({ Z with req := (d.n1 : Int) % 64 } : Ms) with rsv := (d.b0 : Int) % 16777217 } : Ms) with rq := rqM d }) (nilS))).toArray)
    have hR3 := Lib.hid hS.out.res
    clear hS
    go_wp2_with (first | (refine wpList_load_part rfl 42 _ rfl r 0 rfl (msC ({ ({ ({ Z with req := (d.n1 : Int) % 64 } : Ms) with rsv := (d.b0 : Int) % 16777217 } : Ms) with rq := rqM d }) (nilS)) hld.out _ Try.underlying42 rfl hi53.out ?_) | (refine wpList_store_part rfl 42 _ _ rfl p 0 (msC ({ ({ ({ Z with req := (d.n1 : Int) % 64 } : Ms) with rsv := (d.b0 : Int) % 16777217 } : Ms) with rq := rqM d }) (nilS)) rfl rfl 42 (msC z0 nilS) hR3.out hi53.out (less_msg z0d hdg) (ms_one (rfl)) ?_))
    refine bodyPost_ret (ret_array rfl rfl hR4.out _ Try.underlying42 rfl hi53.out) rfl ?_
    have hXe : X = { ({ ({ Z with req := (d.n1 : Int) % 64 } : Ms) with rsv := (d.b0 : Int) % 16777217 } : Ms) with rq := rqM d } := by rw [← hX.out, draftM, hkH.out, ← hZH.out]; rfl
    rw [hXe]
    exact ⟨_, _, _, rfl, by rw [show ({ ({ ({ Z with req := (d.n1 : Int) % 64 } : Ms) with rsv := (d.b0 : Int) % 16777217 } : Ms) with rq := rqM d } : Ms).marks = [] by rw [← hZH.out]; rfl]; exact OwnM.nil _ _, hB4.out⟩
 · have hS2 := hS.out
   have t1 : W3.cell? ⟨q, 1, none⟩ = some (.int .u16 (d.n1 : Int)) := (At.cell hS2.num 1).trans rfl
   have u1 := cell_regrown t1
   have hb1 : (d.n1 : Int) ≤ 65535 := by have := hd.n1; omega
   have f0 := cell_regrown (show W3.cell? ⟨n, 0, none⟩ = some (.int .u8 (d.kd : Int)) from (At.cell hS2.dr 0).trans rfl)
   have f1 := cell_regrown (show W3.cell? ⟨n, 1, none⟩ = some (.int .u16 (d.n0 : Int)) from (At.cell hS2.dr 1).trans rfl)
   have f2 := cell_regrown (show W3.cell? ⟨n, 2, none⟩ = some (.int .u16 (d.n1 : Int)) from (At.cell hS2.dr 2).trans rfl)
   have f3 := cell_regrown (show W3.cell? ⟨n, 3, none⟩ = some (.int .u16 (d.n2 : Int)) from (At.cell hS2.dr 3).trans rfl)
   have f4 := cell_regrown (show W3.cell? ⟨n, 4, none⟩ = some (.int .u16 (d.n3 : Int)) from (At.cell hS2.dr 4).trans rfl)
   have f5 := cell_regrown (show W3.cell? ⟨n, 5, none⟩ = some (.int .u16 (d.n4 : Int)) from (At.cell hS2.dr 5).trans rfl)
   have f6 := cell_regrown (show W3.cell? ⟨n, 6, none⟩ = some (.int .u16 (d.n5 : Int)) from (At.cell hS2.dr 6).trans rfl)
   have f7 := cell_regrown (show W3.cell? ⟨n, 7, none⟩ = some (.int .u16 (d.n6 : Int)) from (At.cell hS2.dr 7).trans rfl)
   have f8 := cell_regrown (show W3.cell? ⟨n, 8, none⟩ = some (.int .u16 (d.n7 : Int)) from (At.cell hS2.dr 8).trans rfl)
   have f9 := cell_regrown (show W3.cell? ⟨n, 9, none⟩ = some (.int .u64 (d.b0 : Int)) from (At.cell hS2.dr 9).trans rfl)
   have f10 := cell_regrown (show W3.cell? ⟨n, 10, none⟩ = some (.int .u64 (d.b1 : Int)) from (At.cell hS2.dr 10).trans rfl)
   have f11 := cell_regrown (show W3.cell? ⟨n, 11, none⟩ = some (.slice x L cap) from (At.cell hS2.dr 11).trans rfl)
   have cD := fun dd os => Calls.regrown_of (digest_lit d x L cap 0 0 rfl (by omega) (grow (redrawn W3 dd) os) (hS2.byt_at (below_regrown W3 dd os)))
   go_upto_region 12 with fail
   refine Tail.wp_region_below_tail 7 (by kernel_rfl) (by kernel_rfl) (by kernel_rfl) ?_
   simp only [List.take_succ_cons, List.take_zero, List.drop_succ_cons, List.drop_zero]
   repeat (go_big_quiet_step (first | with_reducible exact cD _ _))
   refine wpQuiet_nil ?_
   intro _ hw'
   obtain ⟨⟨dq, osq⟩, hw''⟩ := hw'
   subst hw''
   have hS4 := hS2.below (below_regrown W3 dq osq)
   clear cD t1 u1 c0 hS hS2 f0 f1 f2 f3 f4 f5 f6 f7 f8 f9 f10 f11
   generalize grow (redrawn W3 dq) osq = W4 at hS4 ⊢
   have cc4 := hS4.msg.cell 2
   have ff4 := hS4.msg.free 2
   obtain ⟨u4c, hu4⟩ : ∃ u, (msC (Z) (nilS))[2]? = some u := ⟨_, List.getElem?_eq_getElem (by rw [msC_len (by exact hbd)]; decide)⟩
   rw [hu4] at cc4
   have hS5 := hS4.put (m' := { Z with car := (d.n1 : Int) % 8 }) (v' := nilS) 2 (.int .i64 ((d.n1 : Int) % 8)) (show (msC (Z) (nilS)).set 2 (.int .i64 ((d.n1 : Int) % 8)) = msC ({ Z with car := (d.n1 : Int) % 8 }) (nilS) from rfl)
   clear hu4
   have hP := Lib.hid hS5.msg
   have hS6 := Lib.hid (hS5.row (m' := { ({ Z with car := (d.n1 : Int) % 8 } : Ms) with dig := digM d.bs 0 }) (v' := nilS) 15 ((digM d.bs 0).map u8V) (set_dig _ _ _ (by exact hbd) (digM_len _ _)))
   have hdl := digM_len d.bs 0
   clear hS5 hS4
   go_upto_region 21 with (refine wpList_store_part rfl 37 _ _ rfl r 15 ((digM d.bs 0).map u8V) rfl rfl 42 (msC ({ Z with car := (d.n1 : Int) % 8 }) nilS) hP.out (dig_size hdl) (by rw [msC_len (by exact hbd), List.length_map, hdl]; decide) (one_dig _) ?_)
   try simp only [Act.put]
   clear cc4 ff4 hP
   generalize (W4.setCell ⟨r, 2, none⟩ (.int .i64 ((d.n1 : Int) % 8))).setRow r (putL (msC ({ Z with car := (d.n1 : Int) % 8 }) nilS) 15 ((digM d.bs 0).map u8V)).toArray = W5 at hS6 ⊢
   have hS := hS6
   clear hS6
   have hdg : ({ ({ Z with car := (d.n1 : Int) % 8 } : Ms) with dig := digM d.bs 0 }).dig.length = 32 := by exact digM_len _ _
   have hi53 := Lib.hid (size_msg (m := { ({ Z with car := (d.n1 : Int) % 8 } : Ms) with dig := digM d.bs 0 }) (v := nilS) hdg)
   have hld := Lib.hid (fun j u (hu : (msC ({ ({ Z with car := (d.n1 : Int) % 8 } : Ms) with dig := digM d.bs 0 }) (nilS))[j]? = some u) => (show W5.cell? ⟨r, 0 + j, none⟩ = some u by rw [Nat.zero_add]; exact hS.out.msg.get hu))
   have hR4 := Lib.hid (atL_eq (hS.out.res.row (putL (msC z0 nilS) 0 (msC ({ ({ Z with car := (d.n1 : Int) % 8 } : Ms) with dig := digM d.bs 0 }) (nilS)))) (put_msg z0d hdg))
   have hB4 := Lib.hid (below_row hS.out.bel (g := p) (by have := hS.out.base; have := hS.out.ord; omega) (putL (msC z0 nilS) 0 (msC ({ ({ Z with car := (d.n1 : Int) % 8 } : Ms) with dig := digM d.bs 0 }) (nilS))).toArray)
   have hR3 := Lib.hid hS.out.res
   clear hS
   go_wp2_with (first | (refine wpList_load_part rfl 42 _ rfl r 0 rfl (msC ({ ({ Z with car := (d.n1 : Int) % 8 } : Ms) with dig := digM d.bs 0 }) (nilS)) hld.out _ Try.underlying42 rfl hi53.out ?_) | (refine wpList_store_part rfl 42 _ _ rfl p 0 (msC ({ ({ Z with car := (d.n1 : Int) % 8 } : Ms) with dig := digM d.bs 0 }) (nilS)) rfl rfl 42 (msC z0 nilS) hR3.out hi53.out (less_msg z0d hdg) (ms_one (rfl)) ?_))
   refine bodyPost_ret (ret_array rfl rfl hR4.out _ Try.underlying42 rfl hi53.out) rfl ?_
   have hXe : X = { ({ Z with car := (d.n1 : Int) % 8 } : Ms) with dig := digM d.bs 0 } := by rw [← hX.out, draftM, hkH.out, ← hZH.out]; rfl
   rw [hXe]
   exact ⟨_, _, _, rfl, by rw [show ({ ({ Z with car := (d.n1 : Int) % 8 } : Ms) with dig := digM d.bs 0 } : Ms).marks = [] by rw [← hZH.out]; rfl]; exact OwnM.nil _ _, hB4.out⟩
 · skip
   have hn1b : (d.n1 : Int) ≤ 65535 := by have := hd.n1; omega
   have hmk0 : marksM d 0 = [] := rfl
   have hO0 := Lib.hid (OwnM.nil (r + 1) W3)
   have hrz : r + 1 ≤ W3.heap.size := hS.out.msg.inside
   go_upto_region 14 with fail
   clear c0
   go_wp2_with fail
   go_loopw [7] (fun c wr => ∃ (i : Nat) (v : Value), c = .int .i64 (i : Int) ∧ i ≤ 8 ∧ Hid (Sd n p q r d x L cap w Z v wr) ∧ Hid (OwnM (r + 1) wr v (marksM d i)) ∧ r + 1 ≤ wr.heap.size)
    (fun c _ => 8 - (RowKit.intOf c).toNat)
   case atStart => exact ⟨0, nilS, rfl, by omega, hS, hO0, hrz⟩
   case round =>
    obtain ⟨wi, hwi⟩ : ∃ wi, wi = wr := ⟨_, rfl⟩
    subst hwi
    obtain ⟨i, v, rfl, hi, hSi, hOi, hrz⟩ := hrel
    clear hS hO0 hmk0
    by_cases hlt : i < 8
    case neg =>
     obtain rfl : i = 8 := by omega
     obtain ⟨y, N, c, rfl⟩ := hOi.out.slice
     clear hlt
     go_upto_region 21 with fail
     obtain ⟨W5, hW5⟩ : ∃ W5, W5 = wi := ⟨_, rfl⟩
     subst hW5
     have hS := hSi
     have hbM : Z.dig.length = 32 := by exact hbd
     have hOM := Lib.hid (hOi.out.row (r := p) (by have := hS.out.ord; omega) (putL (msC z0 nilS) 0 (msC Z (.slice y N c))).toArray)
     have hle : w.heap.size ≤ r + 1 := by have := hS.out.base; have := hS.out.ord; omega
     clear hSi hOi
     have hdg : Z.dig.length = 32 := by exact hbd
     have hi53 := Lib.hid (size_msg (m := Z) (v := .slice y N c) hdg)
     have hld := Lib.hid (fun j u (hu : (msC Z (.slice y N c))[j]? = some u) => (show W5.cell? ⟨r, 0 + j, none⟩ = some u by rw [Nat.zero_add]; exact hS.out.msg.get hu))
     have hR4 := Lib.hid (atL_eq (hS.out.res.row (putL (msC z0 nilS) 0 (msC Z (.slice y N c)))) (put_msg z0d hdg))
     have hB4 := Lib.hid (below_row hS.out.bel (g := p) (by have := hS.out.base; have := hS.out.ord; omega) (putL (msC z0 nilS) 0 (msC Z (.slice y N c))).toArray)
     have hR3 := Lib.hid hS.out.res
     clear hS
     go_wp2_with (first | (refine wpList_load_part rfl 42 _ rfl r 0 rfl (msC Z (.slice y N c)) hld.out _ Try.underlying42 rfl hi53.out ?_) | (refine wpList_store_part rfl 42 _ _ rfl p 0 (msC Z (.slice y N c)) rfl rfl 42 (msC z0 nilS) hR3.out hi53.out (less_msg z0d hdg) (ms_one rfl) ?_))
     refine bodyPost_ret (ret_array rfl rfl hR4.out _ Try.underlying42 rfl hi53.out) rfl ?_
     have hXe : X = { Z with marks := marksM d 8 } := by rw [← hX.out, draftM, hkH.out, ← hZH.out]; rfl
     rw [hXe]
     exact ⟨_, _, _, rfl, hOM.out.less hle, hB4.out⟩
    have hlt' : (i : Int) < 8 := by omega
    have hS2 := hSi.out
    have t1 : wi.cell? ⟨q, 1, none⟩ = some (.int .u16 (d.n1 : Int)) := (At.cell hS2.num 1).trans rfl
    have hltH := Lib.hid hlt
    have hsh : ((d.n1 : Int) / 2 ^ i).tmod 2 = ((d.n1 / 2 ^ i % 2 : Nat) : Int) := by
     rw [show (d.n1 : Int) / 2 ^ i = ((d.n1 / 2 ^ i : Nat) : Int) by rw [Int.natCast_ediv, Int.natCast_pow]; rfl]
     rfl
    have hms : marksM d (i + 1) = marksM d i ++ (if hasM d i = true then [((i : Int), digM d.bs i)] else []) := by
     simp only [marksM, List.range_succ, List.filter_append, List.map_append]
     congr 1
     by_cases h : hasM d i = true
     · simp [h]
     · simp [h]
    clear hlt
    by_cases hbit : d.n1 / 2 ^ i % 2 = 1
    case neg =>
     have hb0 : ((((d.n1 : Int) / 2 ^ i).tmod 2) == 1) = false := by rw [hsh, beq_eq_false_iff_ne]; omega
     have hno : hasM d i = false := by simp [hasM, hbit]
     have hOi2 := Lib.hid (show OwnM (r + 1) wi v (marksM d (i + 1)) by rw [hms, hno]; simpa using hOi.out)
     clear hms hbit hsh hOi hS2
     go_wp2_with fail
     go_roundw
     case rel => exact ⟨i + 1, v, by go_num, by have := hltH.out; omega, hSi, hOi2, hrz⟩
     case measure => have := hltH.out; simp [RowKit.intOf]; omega
    have hb0 : ((((d.n1 : Int) / 2 ^ i).tmod 2) == 1) = true := by rw [hsh, hbit]; rfl
    have hyes : hasM d i = true := by simp [hasM, hbit]
    rw [hyes, if_pos rfl] at hms
    replace hms := Lib.hid hms
    clear hsh hbit
    obtain ⟨D, hDe⟩ : ∃ D, digM d.bs i = D := ⟨_, rfl⟩
    have hDl : D.length = 32 := by rw [← hDe]; exact digM_len _ _
    have cD := Lib.hid (fun W hW => digest_lit d x L cap (i : Int) i rfl (by have := hltH.out; omega) W hW)
    have hms2 := hms.out
    rw [hDe] at hms2
    have cD2 := cD.out
    simp only [hDe] at cD2
    replace cD2 := Lib.hid cD2
    replace hms2 := Lib.hid hms2
    clear hms cD
    clear hDe
    go_upto_region 18 with fail
    refine Sched.wp_region_sched 8 (fun W W' => Below W.heap.size W W') (VK [.val (.pointer (some ⟨r, 47, none⟩)), .val v, .val (.int .i64 (i : Int)), .val (.agg #[.int .u8 (d.kd : Int), .int .u16 (d.n0 : Int), .int .u16 (d.n1 : Int), .int .u16 (d.n2 : Int), .int .u16 (d.n3 : Int), .int .u16 (d.n4 : Int), .int .u16 (d.n5 : Int), .int .u16 (d.n6 : Int), .int .u16 (d.n7 : Int), .int .u64 (d.b0 : Int), .int .u64 (d.b1 : Int), .slice x L cap]), .val (.int .i64 (i : Int)), .val (.agg (D.map u8V).toArray), .val (.agg (markC ((i : Int), D)).toArray), .of (fun v W => ∃ g : Nat, v = .slice (some ⟨g, 0, none⟩) 1 1 ∧ AtL W g 65 (markC ((i : Int), D)) ∧ r + 1 ≤ g) (fun ⟨g, e, h, hm⟩ hb => ⟨g, e, h.on hb, hm⟩)]) (fun _ _ _ => True) (by kernel_rfl) (by kernel_rfl) (by kernel_rfl) (fun h1 h2 => belowTr h1 h2) (fun h1 h2 => VK.keep h1 h2) (Below.refl _ _).drew (fun _ => trivial) (Sched.StepsA.steps (by kernel_rfl) ?hSM) ?hQM
    case hSM =>
     simp only [List.take_succ_cons, List.take_zero]
     refine ⟨?_, ?_, ?_, ?_, ?_, ?_, ?_, ?_, trivial⟩
     · intro ys done W aa hE hn hF hD hZ hG hO
       replace hE : Below wi.heap.size wi W := hE
       have o4 := hO 4 (by kernel_rfl)
       replace o4 : aa.tmps[4]? = some (.pointer (some ⟨r, 0, none⟩)) := o4
       go_wp2_with fail
       first | exact ⟨_, rfl, Below.refl _ _, VK.val rfl rfl, trivial⟩ | exact ⟨_, rfl, Below.refl _ _, VK.val rfl rfl⟩
     · intro ys done W aa hE hn hF hD hZ hG hO
       replace hE : Below wi.heap.size wi W := hE
       have v0 := (hF 0 (by decide) (hD 0 (by kernel_rfl))).eq rfl
       have g0 := hG 0 122 rfl (Nat.le_of_ble_eq_true rfl)
       rw [v0] at g0
       have pc := (hS2.msg.on hE).get (ms_marks (v := v) (by exact hbd))
       go_wp2_with fail
       first | exact ⟨_, rfl, Below.refl _ _, VK.val rfl rfl, trivial⟩ | exact ⟨_, rfl, Below.refl _ _, VK.val rfl rfl⟩
     · intro ys done W aa hE hn hF hD hZ hG hO
       replace hE : Below wi.heap.size wi W := hE
       have o7 := hO 7 (by kernel_rfl)
       replace o7 : aa.tmps[7]? = some (.int .i64 (i : Int)) := o7
       go_wp2_with fail
       first | exact ⟨_, rfl, Below.refl _ _, VK.val rfl rfl, trivial⟩ | exact ⟨_, rfl, Below.refl _ _, VK.val rfl rfl⟩
     · intro ys done W aa hE hn hF hD hZ hG hO
       replace hE : Below wi.heap.size wi W := hE
       have o1 := hO 1 (by kernel_rfl)
       replace o1 : aa.tmps[1]? = some (.pointer (some ⟨n, 0, none⟩)) := o1
       have p0 : W.cell? ⟨n, 0, none⟩ = some (.int .u8 (d.kd : Int)) := (At.cell (At.keep hS2.dr hE hS2.dr.inside) 0).trans rfl
       have p1 : W.cell? ⟨n, 1, none⟩ = some (.int .u16 (d.n0 : Int)) := (At.cell (At.keep hS2.dr hE hS2.dr.inside) 1).trans rfl
       have p2 : W.cell? ⟨n, 2, none⟩ = some (.int .u16 (d.n1 : Int)) := (At.cell (At.keep hS2.dr hE hS2.dr.inside) 2).trans rfl
       have p3 : W.cell? ⟨n, 3, none⟩ = some (.int .u16 (d.n2 : Int)) := (At.cell (At.keep hS2.dr hE hS2.dr.inside) 3).trans rfl
       have p4 : W.cell? ⟨n, 4, none⟩ = some (.int .u16 (d.n3 : Int)) := (At.cell (At.keep hS2.dr hE hS2.dr.inside) 4).trans rfl
       have p5 : W.cell? ⟨n, 5, none⟩ = some (.int .u16 (d.n4 : Int)) := (At.cell (At.keep hS2.dr hE hS2.dr.inside) 5).trans rfl
       have p6 : W.cell? ⟨n, 6, none⟩ = some (.int .u16 (d.n5 : Int)) := (At.cell (At.keep hS2.dr hE hS2.dr.inside) 6).trans rfl
       have p7 : W.cell? ⟨n, 7, none⟩ = some (.int .u16 (d.n6 : Int)) := (At.cell (At.keep hS2.dr hE hS2.dr.inside) 7).trans rfl
       have p8 : W.cell? ⟨n, 8, none⟩ = some (.int .u16 (d.n7 : Int)) := (At.cell (At.keep hS2.dr hE hS2.dr.inside) 8).trans rfl
       have p9 : W.cell? ⟨n, 9, none⟩ = some (.int .u64 (d.b0 : Int)) := (At.cell (At.keep hS2.dr hE hS2.dr.inside) 9).trans rfl
       have p10 : W.cell? ⟨n, 10, none⟩ = some (.int .u64 (d.b1 : Int)) := (At.cell (At.keep hS2.dr hE hS2.dr.inside) 10).trans rfl
       have p11 : W.cell? ⟨n, 11, none⟩ = some (.slice x L cap) := (At.cell (At.keep hS2.dr hE hS2.dr.inside) 11).trans rfl
       go_wp2_with fail
       first | exact ⟨_, rfl, Below.refl _ _, VK.val rfl rfl, trivial⟩ | exact ⟨_, rfl, Below.refl _ _, VK.val rfl rfl⟩
     · intro ys done W aa hE hn hF hD hZ hG hO
       replace hE : Below wi.heap.size wi W := hE
       have o7 := hO 7 (by kernel_rfl)
       replace o7 : aa.tmps[7]? = some (.int .i64 (i : Int)) := o7
       go_wp2_with fail
       first | exact ⟨_, rfl, Below.refl _ _, VK.val rfl rfl, trivial⟩ | exact ⟨_, rfl, Below.refl _ _, VK.val rfl rfl⟩
     · intro ys done W aa hE hn hF hD hZ hG hO
       replace hE : Below wi.heap.size wi W := hE
       have v3 := (hF 3 (by decide) (hD 3 (by kernel_rfl))).eq rfl
       have g3 := hG 3 125 rfl (Nat.le_of_ble_eq_true rfl)
       rw [v3] at g3
       have v4 := (hF 4 (by decide) (hD 4 (by kernel_rfl))).eq rfl
       have g4 := hG 4 126 rfl (Nat.le_of_ble_eq_true rfl)
       rw [v4] at g4
       have hC := cD2.out W (hS2.byt_at hE)
       replace hC := Lib.hid hC
       go_wp2_with fail
       refine hC.out.mono ?_
       rintro e W' ⟨rfl, hb'⟩
       replace hb' := Lib.hid hb'
       go_wp2_with fail
       first | exact ⟨_, rfl, hb'.out, VK.val rfl rfl, trivial⟩ | exact ⟨_, rfl, hb'.out, VK.val rfl rfl⟩
     · intro ys done W aa hE hn hF hD hZ hG hO
       replace hE : Below wi.heap.size wi W := hE
       have v2 := (hF 2 (by decide) (hD 2 (by kernel_rfl))).eq rfl
       have g2 := hG 2 124 rfl (Nat.le_of_ble_eq_true rfl)
       rw [v2] at g2
       have v5 := (hF 5 (by decide) (hD 5 (by kernel_rfl))).eq rfl
       have g5 := hG 5 127 rfl (Nat.le_of_ble_eq_true rfl)
       rw [v5] at g5
       go_wp2_with (refine wpList_built2 rfl 65 0 1 _ _ rfl (.int .i64 (i : Int)) (.agg (D.map u8V).toArray) (by simp [Act.eval, g2]) (by simp [Act.eval, g5]) _ (built_mark (i : Int) D hDl) ?_)
       first | exact ⟨_, rfl, Below.refl _ _, VK.val rfl rfl, trivial⟩ | exact ⟨_, rfl, Below.refl _ _, VK.val rfl rfl⟩
     · intro ys done W aa hE hn hF hD hZ hG hO
       replace hE : Below wi.heap.size wi W := hE
       have v6 := (hF 6 (by decide) (hD 6 (by kernel_rfl))).eq rfl
       have g6 := hG 6 128 rfl (Nat.le_of_ble_eq_true rfl)
       rw [v6] at g6
       have hzW : r + 1 ≤ W.heap.size := Nat.le_trans hrz hE.size
       go_wp2_with (refine wpList_mark rfl _ rfl (i : Int) D hDl (by simp [Act.eval, g6]) ?_)
       have hN := AtL.new W 65 (markC ((i : Int), D))
       first | exact ⟨_, rfl, (Below.refl _ _).alloc (Nat.le_refl _) _, VK.of rfl ⟨_, rfl, hN, hzW⟩, trivial⟩ | exact ⟨_, rfl, (Below.refl _ _).alloc (Nat.le_refl _) _, VK.of rfl ⟨_, rfl, hN, hzW⟩⟩
    case hQM =>
     intro ys W4 hE hF _
     replace hE : Below wi.heap.size wi W4 := hE
     have v1 := (hF 1 (by decide)).eq rfl
     obtain ⟨g, v7, hgA, hgr⟩ := (hF 7 (by decide)).get rfl
     simp only [List.take_succ_cons, List.take_zero, List.drop_succ_cons, List.drop_zero, Sched.fill, v1, v7]
     have hS4 := hS2.below hE
     have hO4 := hOi.out.below hE
     have hz4 : r + 1 ≤ W4.heap.size := Nat.le_trans hrz hE.size
     have hml : (marksM d i).length ≤ 1000 := Nat.le_trans (by rw [marksM, List.length_map]; exact List.length_filter_le _ _) (by rw [List.length_range]; have := hltH.out; omega)
     replace hgA := Lib.hid hgA
     replace hO4 := Lib.hid hO4
     replace hS4 := Lib.hid hS4
     clear hF v1 v7 hSi hOi hS2 cD2 hE hrz t1
     go_simp
     go_wp2_with (at_builtin; refine wpList_append_mark rfl _ _ rfl (r + 1) v (marksM d i) rfl hO4.out hml g (i : Int) D hDl rfl hgA.out hz4 ?_)
     intro v2 w5 hO5 hb5
     obtain ⟨y2, N2, c2, rfl⟩ := hO5.slice
     have hS5 := hS4.out.low hb5
     have cc := hS5.msg.get (ms_marks (v := v) (by exact hbd))
     have ff := hS5.msg.free 47
     have hS6 := Lib.hid (hS5.put (m' := Z) (v' := .slice y2 N2 c2) 47 (.slice y2 N2 c2) (set_marks _ _ _ (by exact hbd)))
     have hO6 := Lib.hid (show OwnM (r + 1) (w5.setCell ⟨r, 47, none⟩ (.slice y2 N2 c2)) (.slice y2 N2 c2) (marksM d (i + 1)) by rw [hms2.out]; exact hO5.set (by omega) 47 _)
     have hz6 : r + 1 ≤ (w5.setCell ⟨r, 47, none⟩ (.slice y2 N2 c2)).heap.size := by
      have := hS5.msg.inside
      simp [World.setCell]
      omega
     have hvo := hO4.out.one
     obtain ⟨yv, Nv, cv, rfl⟩ := hO4.out.slice
     replace hz6 := Lib.hid hz6
     clear hS4 hO4 hO5 hb5 hS5 hgA hms2
     go_wp2_with fail
     go_roundw
     case rel => exact ⟨i + 1, _, by go_num, by have := hltH.out; omega, hS6, hO6, hz6.out⟩
     case measure => have := hltH.out; simp [RowKit.intOf]; omega
 · skip
   have hS2 := hS.out
   have hO2 := hS2.msg
   have hZ0 : ∀ ys, ZM (fun done => { Z with car := if done 12 = true then (d.n1 : Int) % 8 else Z.car, bid := if done 14 = true then d.b0 % 4294967297 else Z.bid }) r (fun _ => false) ys W3 := fun ys => by simpa [ZM] using hO2
   obtain ⟨ho1, ho2, ho3⟩ := hS2.ord
   have hqr : q ≠ r := by omega
   have hnr : n ≠ r := by omega
   have hb1 : (d.n1 : Int) ≤ 65535 := by have := hd.n1; omega
   have hb0 : (d.b0 : Int) ≤ 18446744073709551615 := by have := hd.b0; omega
   replace hO2 := Lib.hid hO2
   clear hS
   go_upto_region 20 with fail
   clear c0
   refine Sched.wp_region_sched 15 (fun W W' => But r W W') (Vv [some (.pointer (some ⟨q, 1, none⟩)), some (.int .u16 (d.n1 : Int)), some (.int .u16 ((d.n1 : Int) % 8)), some (.int .i64 ((d.n1 : Int) % 8)), some (.pointer (some ⟨n, 9, none⟩)), some (.pointer (some ⟨n, 9, none⟩)), some (.int .u64 (d.b0 : Int)), some (.int .u64 ((d.b0 : Int) % 4294967297)), some (.pointer (some ⟨n, 9, none⟩)), some (.pointer (some ⟨n, 10, none⟩)), some (.int .u64 (d.b1 : Int)), some (.pointer (some ⟨r, 2, none⟩)), none, some (.pointer (some ⟨r, 48, none⟩)), none]) (ZM (fun done => { Z with car := if done 12 = true then (d.n1 : Int) % 8 else Z.car, bid := if done 14 = true then d.b0 % 4294967297 else Z.bid }) r) (by kernel_rfl) (by kernel_rfl) (by kernel_rfl) (fun h1 h2 => h1.trans h2) (fun h _ => h) ⟨rfl, rfl, rfl, Nat.le_refl _, fun _ _ _ => rfl⟩ (fun ys => hZ0 ys) (Sched.StepsA.steps (by kernel_rfl) ?hSD) ?hQD
   case hSD =>
    simp only [List.take_succ_cons, List.take_zero]
    refine ⟨?_, ?_, ?_, ?_, ?_, ?_, ?_, ?_, ?_, ?_, ?_, ?_, ?_, ?_, ?_, trivial⟩
    · intro ys done W aa hE hn hF hD hZ hG hO
      replace hE : But r W3 W := hE
      have o3 := hO 3 (by kernel_rfl)
      replace o3 : aa.tmps[3]? = some (.pointer (some ⟨q, 0, none⟩)) := o3
      go_wp2_with fail
      exact ⟨_, rfl, But.refl _ _, Vv.val rfl rfl, ZM.light hZ (by simp [Sched.mark])⟩
    · intro ys done W aa hE hn hF hD hZ hG hO
      replace hE : But r W3 W := hE
      have v0 := (hF 0 (by decide) (hD 0 (by kernel_rfl))).eq rfl
      have g0 := hG 0 134 rfl (Nat.le_of_ble_eq_true rfl)
      rw [v0] at g0
      have pc : W.cell? ⟨q, 1, none⟩ = some (.int .u16 (d.n1 : Int)) := (At.cell (hE.at hS2.num hqr) 1).trans rfl
      go_wp2_with fail
      exact ⟨_, rfl, But.refl _ _, Vv.val rfl rfl, ZM.light hZ (by simp [Sched.mark])⟩
    · intro ys done W aa hE hn hF hD hZ hG hO
      replace hE : But r W3 W := hE
      have v1 := (hF 1 (by decide) (hD 1 (by kernel_rfl))).eq rfl
      have g1 := hG 1 135 rfl (Nat.le_of_ble_eq_true rfl)
      rw [v1] at g1
      go_wp2_with fail
      exact ⟨_, rfl, But.refl _ _, Vv.val rfl rfl, ZM.light hZ (by simp [Sched.mark])⟩
    · intro ys done W aa hE hn hF hD hZ hG hO
      replace hE : But r W3 W := hE
      have v2 := (hF 2 (by decide) (hD 2 (by kernel_rfl))).eq rfl
      have g2 := hG 2 136 rfl (Nat.le_of_ble_eq_true rfl)
      rw [v2] at g2
      go_wp2_with fail
      exact ⟨_, rfl, But.refl _ _, Vv.val rfl rfl, ZM.light hZ (by simp [Sched.mark])⟩
    · intro ys done W aa hE hn hF hD hZ hG hO
      replace hE : But r W3 W := hE
      have o1 := hO 1 (by kernel_rfl)
      replace o1 : aa.tmps[1]? = some (.pointer (some ⟨n, 0, none⟩)) := o1
      go_wp2_with fail
      exact ⟨_, rfl, But.refl _ _, Vv.val rfl rfl, ZM.light hZ (by simp [Sched.mark])⟩
    · intro ys done W aa hE hn hF hD hZ hG hO
      replace hE : But r W3 W := hE
      have v4 := (hF 4 (by decide) (hD 4 (by kernel_rfl))).eq rfl
      have g4 := hG 4 138 rfl (Nat.le_of_ble_eq_true rfl)
      rw [v4] at g4
      go_wp2_with fail
      exact ⟨_, rfl, But.refl _ _, Vv.val rfl rfl, ZM.light hZ (by simp [Sched.mark])⟩
    · intro ys done W aa hE hn hF hD hZ hG hO
      replace hE : But r W3 W := hE
      have v5 := (hF 5 (by decide) (hD 5 (by kernel_rfl))).eq rfl
      have g5 := hG 5 139 rfl (Nat.le_of_ble_eq_true rfl)
      rw [v5] at g5
      have pc : W.cell? ⟨n, 9, none⟩ = some (.int .u64 (d.b0 : Int)) := (At.cell (hE.at hS2.dr hnr) 9).trans rfl
      go_wp2_with fail
      exact ⟨_, rfl, But.refl _ _, Vv.val rfl rfl, ZM.light hZ (by simp [Sched.mark])⟩
    · intro ys done W aa hE hn hF hD hZ hG hO
      replace hE : But r W3 W := hE
      have v6 := (hF 6 (by decide) (hD 6 (by kernel_rfl))).eq rfl
      have g6 := hG 6 140 rfl (Nat.le_of_ble_eq_true rfl)
      rw [v6] at g6
      go_wp2_with fail
      exact ⟨_, rfl, But.refl _ _, Vv.val rfl rfl, ZM.light hZ (by simp [Sched.mark])⟩
    · intro ys done W aa hE hn hF hD hZ hG hO
      replace hE : But r W3 W := hE
      have o1 := hO 1 (by kernel_rfl)
      replace o1 : aa.tmps[1]? = some (.pointer (some ⟨n, 0, none⟩)) := o1
      go_wp2_with fail
      exact ⟨_, rfl, But.refl _ _, Vv.val rfl rfl, ZM.light hZ (by simp [Sched.mark])⟩
    · intro ys done W aa hE hn hF hD hZ hG hO
      replace hE : But r W3 W := hE
      have v8 := (hF 8 (by decide) (hD 8 (by kernel_rfl))).eq rfl
      have g8 := hG 8 142 rfl (Nat.le_of_ble_eq_true rfl)
      rw [v8] at g8
      go_wp2_with fail
      exact ⟨_, rfl, But.refl _ _, Vv.val rfl rfl, ZM.light hZ (by simp [Sched.mark])⟩
    · intro ys done W aa hE hn hF hD hZ hG hO
      replace hE : But r W3 W := hE
      have v9 := (hF 9 (by decide) (hD 9 (by kernel_rfl))).eq rfl
      have g9 := hG 9 143 rfl (Nat.le_of_ble_eq_true rfl)
      rw [v9] at g9
      have pc : W.cell? ⟨n, 10, none⟩ = some (.int .u64 (d.b1 : Int)) := (At.cell (hE.at hS2.dr hnr) 10).trans rfl
      go_wp2_with fail
      exact ⟨_, rfl, But.refl _ _, Vv.val rfl rfl, ZM.light hZ (by simp [Sched.mark])⟩
    · intro ys done W aa hE hn hF hD hZ hG hO
      replace hE : But r W3 W := hE
      have o4 := hO 4 (by kernel_rfl)
      replace o4 : aa.tmps[4]? = some (.pointer (some ⟨r, 0, none⟩)) := o4
      go_wp2_with fail
      exact ⟨_, rfl, But.refl _ _, Vv.val rfl rfl, ZM.light hZ (by simp [Sched.mark])⟩
    · intro ys done W aa hE hn hF hD hZ hG hO
      replace hE : But r W3 W := hE
      have v11 := (hF 11 (by decide) (hD 11 (by kernel_rfl))).eq rfl
      have g11 := hG 11 145 rfl (Nat.le_of_ble_eq_true rfl)
      rw [v11] at g11
      have v3 := (hF 3 (by decide) (hD 3 (by kernel_rfl))).eq rfl
      have g3 := hG 3 137 rfl (Nat.le_of_ble_eq_true rfl)
      rw [v3] at g3
      have hZc : AtL W r 42 (msC ({ Z with car := if done 12 = true then (d.n1 : Int) % 8 else Z.car, bid := if done 14 = true then d.b0 % 4294967297 else Z.bid }) nilS) := hZ
      have cc := hZc.cell 2
      have ff := hZc.free 2
      have hnew := atL_eq (hZc.put 2 (.int .i64 ((d.n1 : Int) % 8))) (show (msC ({ Z with car := if done 12 = true then (d.n1 : Int) % 8 else Z.car, bid := if done 14 = true then d.b0 % 4294967297 else Z.bid }) nilS).set 2 (.int .i64 ((d.n1 : Int) % 8)) = msC { ({ Z with car := if done 12 = true then (d.n1 : Int) % 8 else Z.car, bid := if done 14 = true then d.b0 % 4294967297 else Z.bid } : Ms) with car := (d.n1 : Int) % 8 } nilS from rfl)
      obtain ⟨u, hu⟩ : ∃ u, (msC ({ Z with car := if done 12 = true then (d.n1 : Int) % 8 else Z.car, bid := if done 14 = true then d.b0 % 4294967297 else Z.bid }) nilS)[2]? = some u := ⟨_, List.getElem?_eq_getElem (by rw [msC_len (by exact hbd)]; decide)⟩
      rw [hu] at cc
      replace hnew := Lib.hid hnew
      clear hZc hu hZ hF hD hG hO
      go_wp2_with fail
      exact ⟨But.set _ _ _ _, undef, Vv.any rfl, by simpa [ZM, Sched.mark] using hnew.out⟩
    · intro ys done W aa hE hn hF hD hZ hG hO
      replace hE : But r W3 W := hE
      have o4 := hO 4 (by kernel_rfl)
      replace o4 : aa.tmps[4]? = some (.pointer (some ⟨r, 0, none⟩)) := o4
      go_wp2_with fail
      exact ⟨_, rfl, But.refl _ _, Vv.val rfl rfl, ZM.light hZ (by simp [Sched.mark])⟩
    · intro ys done W aa hE hn hF hD hZ hG hO
      replace hE : But r W3 W := hE
      have v13 := (hF 13 (by decide) (hD 13 (by kernel_rfl))).eq rfl
      have g13 := hG 13 146 rfl (Nat.le_of_ble_eq_true rfl)
      rw [v13] at g13
      have v7 := (hF 7 (by decide) (hD 7 (by kernel_rfl))).eq rfl
      have g7 := hG 7 141 rfl (Nat.le_of_ble_eq_true rfl)
      rw [v7] at g7
      have hZc : AtL W r 42 (msC ({ Z with car := if done 12 = true then (d.n1 : Int) % 8 else Z.car, bid := if done 14 = true then d.b0 % 4294967297 else Z.bid }) nilS) := hZ
      have cc := hZc.cell 48
      have ff := hZc.free 48
      have hnew := atL_eq (hZc.put 48 (.int .u64 ((d.b0 : Int) % 4294967297))) (show (msC ({ Z with car := if done 12 = true then (d.n1 : Int) % 8 else Z.car, bid := if done 14 = true then d.b0 % 4294967297 else Z.bid }) nilS).set 48 (.int .u64 ((d.b0 : Int) % 4294967297)) = msC { ({ Z with car := if done 12 = true then (d.n1 : Int) % 8 else Z.car, bid := if done 14 = true then d.b0 % 4294967297 else Z.bid } : Ms) with bid := d.b0 % 4294967297 } nilS from set_bid _ _ (d.b0 % 4294967297) (by exact hbd))
      obtain ⟨u, hu⟩ : ∃ u, (msC ({ Z with car := if done 12 = true then (d.n1 : Int) % 8 else Z.car, bid := if done 14 = true then d.b0 % 4294967297 else Z.bid }) nilS)[48]? = some u := ⟨_, List.getElem?_eq_getElem (by rw [msC_len (by exact hbd)]; decide)⟩
      rw [hu] at cc
      replace hnew := Lib.hid hnew
      clear hZc hu hZ hF hD hG hO
      go_wp2_with fail
      exact ⟨But.set _ _ _ _, undef, Vv.any rfl, by simpa [ZM, Sched.mark] using hnew.out⟩
   case hQD =>
    intro ys W4 hE hV hZ
    obtain ⟨done, hdn, hZz⟩ := hZ
    replace hE : But r W3 W4 := hE
    have hO4 : AtL W4 r 42 (msC ({ Z with car := (d.n1 : Int) % 8, bid := d.b0 % 4294967297 }) nilS) := by
     have := hZz
     simpa [ZM, hdn 12 (by decide), hdn 14 (by decide)] using this
    have hS4 : Sd n p q r d x L cap w ({ Z with car := (d.n1 : Int) % 8, bid := d.b0 % 4294967297 }) nilS W4 := hS2.but hE hO4
    have v10 := (hV 10 (by decide)).eq rfl
    simp only [List.take_succ_cons, List.take_zero, List.drop_succ_cons, List.drop_zero, Sched.fill, Act.put, v10]
    clear hE hV hdn hZz hZ0 hS2 hO4 hO2 v10
    go_simp
    have cc4 := hS4.msg.cell 49
    have ff4 := hS4.msg.free 49
    obtain ⟨u4c, hu4⟩ : ∃ u, (msC ({ Z with car := (d.n1 : Int) % 8, bid := d.b0 % 4294967297 }) (nilS))[49]? = some u := ⟨_, List.getElem?_eq_getElem (by rw [msC_len (by exact hbd)]; decide)⟩
    rw [hu4] at cc4
    have hS5 := hS4.put (m' := { ({ Z with car := (d.n1 : Int) % 8, bid := d.b0 % 4294967297 } : Ms) with nonce := d.b1 }) (v' := nilS) 49 (.int .u64 (d.b1 : Int)) (show (msC ({ Z with car := (d.n1 : Int) % 8, bid := d.b0 % 4294967297 }) (nilS)).set 49 (.int .u64 (d.b1 : Int)) = msC ({ ({ Z with car := (d.n1 : Int) % 8, bid := d.b0 % 4294967297 } : Ms) with nonce := d.b1 }) (nilS) from set_nonce _ _ d.b1 (by exact hbd))
    clear hu4
    replace hS5 := Lib.hid hS5
    clear hS4
    go_upto_region 21 with fail
    generalize W4.setCell ⟨r, 49, none⟩ (.int .u64 (d.b1 : Int)) = W5 at hS5 ⊢
    have hS := hS5
    clear hS5 cc4 ff4
    have hdg : ({ ({ Z with car := (d.n1 : Int) % 8, bid := d.b0 % 4294967297 } : Ms) with nonce := d.b1 }).dig.length = 32 := by exact hbd
    have hi53 := Lib.hid (size_msg (m := { ({ Z with car := (d.n1 : Int) % 8, bid := d.b0 % 4294967297 } : Ms) with nonce := d.b1 }) (v := nilS) hdg)
    have hld := Lib.hid (fun j u (hu : (msC ({ ({ Z with car := (d.n1 : Int) % 8, bid := d.b0 % 4294967297 } : Ms) with nonce := d.b1 }) (nilS))[j]? = some u) => (show W5.cell? ⟨r, 0 + j, none⟩ = some u by rw [Nat.zero_add]; exact hS.out.msg.get hu))
    have hR4 := Lib.hid (atL_eq (hS.out.res.row (putL (msC z0 nilS) 0 (msC ({ ({ Z with car := (d.n1 : Int) % 8, bid := d.b0 % 4294967297 } : Ms) with nonce := d.b1 }) (nilS)))) (put_msg z0d hdg))
    have hB4 := Lib.hid (below_row hS.out.bel (g := p) (by have := hS.out.base; have := hS.out.ord; omega) (putL (msC z0 nilS) 0 (msC ({ ({ Z with car := (d.n1 : Int) % 8, bid := d.b0 % 4294967297 } : Ms) with nonce := d.b1 }) (nilS))).toArray)
    have hR3 := Lib.hid hS.out.res
    clear hS
    go_wp2_with (first | (refine wpList_load_part rfl 42 _ rfl r 0 rfl (msC ({ ({ Z with car := (d.n1 : Int) % 8, bid := d.b0 % 4294967297 } : Ms) with nonce := d.b1 }) (nilS)) hld.out _ Try.underlying42 rfl hi53.out ?_) | (refine wpList_store_part rfl 42 _ _ rfl p 0 (msC ({ ({ Z with car := (d.n1 : Int) % 8, bid := d.b0 % 4294967297 } : Ms) with nonce := d.b1 }) (nilS)) rfl rfl 42 (msC z0 nilS) hR3.out hi53.out (less_msg z0d hdg) (ms_one (rfl)) ?_))
    refine bodyPost_ret (ret_array rfl rfl hR4.out _ Try.underlying42 rfl hi53.out) rfl ?_
    have hXe : X = { ({ Z with car := (d.n1 : Int) % 8, bid := d.b0 % 4294967297 } : Ms) with nonce := d.b1 } := by rw [← hX.out, draftM, hkH.out, ← hZH.out]; rfl
    rw [hXe]
    exact ⟨_, _, _, rfl, by rw [show ({ ({ Z with car := (d.n1 : Int) % 8, bid := d.b0 % 4294967297 } : Ms) with nonce := d.b1 } : Ms).marks = [] by rw [← hZH.out]; rfl]; exact OwnM.nil _ _, hB4.out⟩
 · skip
   have hP := Lib.hid hS.out.msg
   have hS5 := Lib.hid (hS.out.row (m' := { Z with oc := ⟨3, -1, 0⟩ }) (v' := nilS) 50 (ocC ⟨3, -1, 0⟩) (set_oc _ _ _ (by exact hbd)))
   clear hS
   go_upto_region 5 with (refine wpList_store_part rfl 40 _ _ rfl r 50 (ocC ⟨3, -1, 0⟩) rfl rfl 42 (msC Z nilS) hP.out (oc_size _) (by rw [msC_len (by exact hbd)]; exact (by decide : 53 ≤ 53)) (one_oc _) ?_)
   try simp only [Act.put]
   clear hP c0
   generalize W3.setRow r (putL (msC Z nilS) 50 (ocC ⟨3, -1, 0⟩)).toArray = W4 at hS5 ⊢
   have hS2 := hS5.out
   have t1 : W4.cell? ⟨q, 1, none⟩ = some (.int .u16 (d.n1 : Int)) := (At.cell hS2.num 1).trans rfl
   have t2 : W4.cell? ⟨q, 2, none⟩ = some (.int .u16 (d.n2 : Int)) := (At.cell hS2.num 2).trans rfl
   have t9 : W4.cell? ⟨n, 9, none⟩ = some (.int .u64 (d.b0 : Int)) := (At.cell hS2.dr 9).trans rfl
   have hb1 : (d.n1 : Int) ≤ 65535 := by have := hd.n1; omega
   have hb2 : (d.n2 : Int) ≤ 65535 := by have := hd.n2; omega
   have hb0 : (d.b0 : Int) ≤ 18446744073709551615 := by have := hd.b0; omega
   by_cases hz : d.n1 % 3 = 0
   · have hz3 : (d.n1 : Int) % 3 = 0 := by omega
     have hoc : ocM d = ⟨3, -1, 0⟩ := by rw [ocM, if_pos hz]
     clear hz t2 t9 hS2
     go_upto_region 21 with fail
     obtain ⟨W5, hW5⟩ : ∃ W5, W5 = W4 := ⟨_, rfl⟩
     subst hW5
     have hS := hS5
     clear hS5 t1
     have hdg : ({ Z with oc := ⟨3, -1, 0⟩ }).dig.length = 32 := by exact hbd
     have hi53 := Lib.hid (size_msg (m := { Z with oc := ⟨3, -1, 0⟩ }) (v := nilS) hdg)
     have hld := Lib.hid (fun j u (hu : (msC ({ Z with oc := ⟨3, -1, 0⟩ }) (nilS))[j]? = some u) => (show W5.cell? ⟨r, 0 + j, none⟩ = some u by rw [Nat.zero_add]; exact hS.out.msg.get hu))
     have hR4 := Lib.hid (atL_eq (hS.out.res.row (putL (msC z0 nilS) 0 (msC ({ Z with oc := ⟨3, -1, 0⟩ }) (nilS)))) (put_msg z0d hdg))
     have hB4 := Lib.hid (below_row hS.out.bel (g := p) (by have := hS.out.base; have := hS.out.ord; omega) (putL (msC z0 nilS) 0 (msC ({ Z with oc := ⟨3, -1, 0⟩ }) (nilS))).toArray)
     have hR3 := Lib.hid hS.out.res
     clear hS
     go_wp2_with (first | (refine wpList_load_part rfl 42 _ rfl r 0 rfl (msC ({ Z with oc := ⟨3, -1, 0⟩ }) (nilS)) hld.out _ Try.underlying42 rfl hi53.out ?_) | (refine wpList_store_part rfl 42 _ _ rfl p 0 (msC ({ Z with oc := ⟨3, -1, 0⟩ }) (nilS)) rfl rfl 42 (msC z0 nilS) hR3.out hi53.out (less_msg z0d hdg) (ms_one (rfl)) ?_))
     refine bodyPost_ret (ret_array rfl rfl hR4.out _ Try.underlying42 rfl hi53.out) rfl ?_
     have hXe : X = { Z with oc := ⟨3, -1, 0⟩ } := by rw [← hX.out, draftM, hkH.out, ← hZH.out]; rw [hoc]; rfl
     rw [hXe]
     exact ⟨_, _, _, rfl, by rw [show ({ Z with oc := ⟨3, -1, 0⟩ } : Ms).marks = [] by rw [← hZH.out]; rfl]; exact OwnM.nil _ _, hB4.out⟩
   rcases (by omega : (d.n1 : Int) % 3 = 1 ∨ (d.n1 : Int) % 3 = 2) with hz3 | hz3
   · skip
     obtain ⟨pr, hpr⟩ : ∃ pr, d.b0 % 16777217 = pr := ⟨_, rfl⟩
     have hpr2 : (d.b0 : Int) % 16777217 = (pr : Int) := by omega
     have hoc : ocM d = ⟨2, (d.n2 : Int) % 8, pr⟩ := by rw [ocM, if_neg hz, hz3, hpr]; rfl
     clear hpr
     have hP := Lib.hid hS5.out.msg
     have hS6 := Lib.hid (hS5.out.row (m' := { ({ Z with oc := ⟨3, -1, 0⟩ } : Ms) with oc := ⟨2, (d.n2 : Int) % 8, pr⟩ }) (v' := nilS) 50 (ocC ⟨2, (d.n2 : Int) % 8, pr⟩) (set_oc _ _ _ (by exact hbd)))
     clear hz hS2 hS5
     go_upto_region 21 with (refine wpList_store_part rfl 40 _ _ rfl r 50 (ocC ⟨2, (d.n2 : Int) % 8, pr⟩) rfl rfl 42 (msC ({ Z with oc := ⟨3, -1, 0⟩ }) nilS) hP.out (oc_size _) (by rw [msC_len (by exact hbd)]; exact (by decide : 53 ≤ 53)) (one_oc _) ?_)
     try simp only [Act.put]
     clear hP t1 t2 t9
     generalize W4.setRow r (putL (msC ({ Z with oc := ⟨3, -1, 0⟩ }) nilS) 50 (ocC ⟨2, (d.n2 : Int) % 8, pr⟩)).toArray = W5 at hS6 ⊢
     have hS := hS6
     clear hS6
     have hdg : ({ ({ Z with oc := ⟨3, -1, 0⟩ } : Ms) with oc := ⟨2, (d.n2 : Int) % 8, pr⟩ }).dig.length = 32 := by exact hbd
     have hi53 := Lib.hid (size_msg (m := { ({ Z with oc := ⟨3, -1, 0⟩ } : Ms) with oc := ⟨2, (d.n2 : Int) % 8, pr⟩ }) (v := nilS) hdg)
     have hld := Lib.hid (fun j u (hu : (msC ({ ({ Z with oc := ⟨3, -1, 0⟩ } : Ms) with oc := ⟨2, (d.n2 : Int) % 8, pr⟩ }) (nilS))[j]? = some u) => (show W5.cell? ⟨r, 0 + j, none⟩ = some u by rw [Nat.zero_add]; exact hS.out.msg.get hu))
     have hR4 := Lib.hid (atL_eq (hS.out.res.row (putL (msC z0 nilS) 0 (msC ({ ({ Z with oc := ⟨3, -1, 0⟩ } : Ms) with oc := ⟨2, (d.n2 : Int) % 8, pr⟩ }) (nilS)))) (put_msg z0d hdg))
     have hB4 := Lib.hid (below_row hS.out.bel (g := p) (by have := hS.out.base; have := hS.out.ord; omega) (putL (msC z0 nilS) 0 (msC ({ ({ Z with oc := ⟨3, -1, 0⟩ } : Ms) with oc := ⟨2, (d.n2 : Int) % 8, pr⟩ }) (nilS))).toArray)
     have hR3 := Lib.hid hS.out.res
     clear hS
     go_wp2_with (first | (refine wpList_load_part rfl 42 _ rfl r 0 rfl (msC ({ ({ Z with oc := ⟨3, -1, 0⟩ } : Ms) with oc := ⟨2, (d.n2 : Int) % 8, pr⟩ }) (nilS)) hld.out _ Try.underlying42 rfl hi53.out ?_) | (refine wpList_store_part rfl 42 _ _ rfl p 0 (msC ({ ({ Z with oc := ⟨3, -1, 0⟩ } : Ms) with oc := ⟨2, (d.n2 : Int) % 8, pr⟩ }) (nilS)) rfl rfl 42 (msC z0 nilS) hR3.out hi53.out (less_msg z0d hdg) (ms_one (rfl)) ?_))
     refine bodyPost_ret (ret_array rfl rfl hR4.out _ Try.underlying42 rfl hi53.out) rfl ?_
     have hXe : X = { ({ Z with oc := ⟨3, -1, 0⟩ } : Ms) with oc := ⟨2, (d.n2 : Int) % 8, pr⟩ } := by rw [← hX.out, draftM, hkH.out, ← hZH.out]; rw [hoc]; rfl
     rw [hXe]
     exact ⟨_, _, _, rfl, by rw [show ({ ({ Z with oc := ⟨3, -1, 0⟩ } : Ms) with oc := ⟨2, (d.n2 : Int) % 8, pr⟩ } : Ms).marks = [] by rw [← hZH.out]; rfl]; exact OwnM.nil _ _, hB4.out⟩
   · skip
     obtain ⟨pr, hpr⟩ : ∃ pr, d.b0 % 16777217 = pr := ⟨_, rfl⟩
     have hpr2 : (d.b0 : Int) % 16777217 = (pr : Int) := by omega
     have hoc : ocM d = ⟨4, (d.n2 : Int) % 8, pr⟩ := by rw [ocM, if_neg hz, hz3, hpr]; rfl
     clear hpr
     have hP := Lib.hid hS5.out.msg
     have hS6 := Lib.hid (hS5.out.row (m' := { ({ Z with oc := ⟨3, -1, 0⟩ } : Ms) with oc := ⟨4, (d.n2 : Int) % 8, pr⟩ }) (v' := nilS) 50 (ocC ⟨4, (d.n2 : Int) % 8, pr⟩) (set_oc _ _ _ (by exact hbd)))
     clear hz hS2 hS5
     go_upto_region 21 with (refine wpList_store_part rfl 40 _ _ rfl r 50 (ocC ⟨4, (d.n2 : Int) % 8, pr⟩) rfl rfl 42 (msC ({ Z with oc := ⟨3, -1, 0⟩ }) nilS) hP.out (oc_size _) (by rw [msC_len (by exact hbd)]; exact (by decide : 53 ≤ 53)) (one_oc _) ?_)
     try simp only [Act.put]
     clear hP t1 t2 t9
     generalize W4.setRow r (putL (msC ({ Z with oc := ⟨3, -1, 0⟩ }) nilS) 50 (ocC ⟨4, (d.n2 : Int) % 8, pr⟩)).toArray = W5 at hS6 ⊢
     have hS := hS6
     clear hS6
     have hdg : ({ ({ Z with oc := ⟨3, -1, 0⟩ } : Ms) with oc := ⟨4, (d.n2 : Int) % 8, pr⟩ }).dig.length = 32 := by exact hbd
     have hi53 := Lib.hid (size_msg (m := { ({ Z with oc := ⟨3, -1, 0⟩ } : Ms) with oc := ⟨4, (d.n2 : Int) % 8, pr⟩ }) (v := nilS) hdg)
     have hld := Lib.hid (fun j u (hu : (msC ({ ({ Z with oc := ⟨3, -1, 0⟩ } : Ms) with oc := ⟨4, (d.n2 : Int) % 8, pr⟩ }) (nilS))[j]? = some u) => (show W5.cell? ⟨r, 0 + j, none⟩ = some u by rw [Nat.zero_add]; exact hS.out.msg.get hu))
     have hR4 := Lib.hid (atL_eq (hS.out.res.row (putL (msC z0 nilS) 0 (msC ({ ({ Z with oc := ⟨3, -1, 0⟩ } : Ms) with oc := ⟨4, (d.n2 : Int) % 8, pr⟩ }) (nilS)))) (put_msg z0d hdg))
     have hB4 := Lib.hid (below_row hS.out.bel (g := p) (by have := hS.out.base; have := hS.out.ord; omega) (putL (msC z0 nilS) 0 (msC ({ ({ Z with oc := ⟨3, -1, 0⟩ } : Ms) with oc := ⟨4, (d.n2 : Int) % 8, pr⟩ }) (nilS))).toArray)
     have hR3 := Lib.hid hS.out.res
     clear hS
     go_wp2_with (first | (refine wpList_load_part rfl 42 _ rfl r 0 rfl (msC ({ ({ Z with oc := ⟨3, -1, 0⟩ } : Ms) with oc := ⟨4, (d.n2 : Int) % 8, pr⟩ }) (nilS)) hld.out _ Try.underlying42 rfl hi53.out ?_) | (refine wpList_store_part rfl 42 _ _ rfl p 0 (msC ({ ({ Z with oc := ⟨3, -1, 0⟩ } : Ms) with oc := ⟨4, (d.n2 : Int) % 8, pr⟩ }) (nilS)) rfl rfl 42 (msC z0 nilS) hR3.out hi53.out (less_msg z0d hdg) (ms_one (rfl)) ?_))
     refine bodyPost_ret (ret_array rfl rfl hR4.out _ Try.underlying42 rfl hi53.out) rfl ?_
     have hXe : X = { ({ Z with oc := ⟨3, -1, 0⟩ } : Ms) with oc := ⟨4, (d.n2 : Int) % 8, pr⟩ } := by rw [← hX.out, draftM, hkH.out, ← hZH.out]; rw [hoc]; rfl
     rw [hXe]
     exact ⟨_, _, _, rfl, by rw [show ({ ({ Z with oc := ⟨3, -1, 0⟩ } : Ms) with oc := ⟨4, (d.n2 : Int) % 8, pr⟩ } : Ms).marks = [] by rw [← hZH.out]; rfl]; exact OwnM.nil _ _, hB4.out⟩
end Go.Proofs.Ytpefdmkfmcjfnaa.Df

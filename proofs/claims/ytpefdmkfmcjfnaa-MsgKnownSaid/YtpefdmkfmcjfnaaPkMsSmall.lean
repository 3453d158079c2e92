import Derived.Test.YtpefdmkfmcjfnaaPkFrLay
import Derived.Test.YtpefdmkfmcjfnaaPkOctRef

namespace Go.Proofs.Ytpefdmkfmcjfnaa.Ms
open Go.RowKit Go.Sort Go.Proofs.Ytpefdmkfmcjfnaa.Mem Go.Proofs.Ytpefdmkfmcjfnaa.Route Go.Proofs.Ytpefdmkfmcjfnaa.Oct Go.Proofs.Ytpefdmkfmcjfnaa.Part Go.Proofs.Ytpefdmkfmcjfnaa.Dr
set_option linter.unusedVariables false
theorem chg_grown {B r : Nat} {a b : World} (h : a.grownBy b (some r)) (hB : B ≤ a.heap.size) : Chg B r a b := ⟨h.os, h.tape, h.output, h.size, fun k hk hne => h.block k (Nat.lt_of_lt_of_le hk hB) (by simpa using hne)⟩
theorem chg_new {n r : Nat} {w v : World} (hn : w.heap.size = n) (h : Chg n r w v) : w.grownBy v (some r) := by
 subst hn
 exact h.grown
theorem atL_grown {w v : World} {g r : Nat} {t : TypeId} {cs : List Value} (h : AtL w g t cs) (hg : w.grownBy v (some r)) (hne : g ≠ r) : AtL v g t cs := (hg.block g h.inside (by simpa using hne)).trans h
theorem fold_lt (l : Bs) : ∀ a : Nat, l.foldl (fun a b => a * 256 + b.toNat) a < (a + 1) * 256 ^ l.length := by
 induction l with
 | nil => intro a; simp
 | cons b t ih =>
  intro a
  have h := ih (a * 256 + b.toNat)
  have hb := b.toNat_lt
  rw [List.foldl_cons, List.length_cons, Nat.pow_succ, Nat.mul_comm (256 ^ t.length) 256, ← Nat.mul_assoc]
  exact Nat.lt_of_lt_of_le h (Nat.mul_le_mul_right _ (by omega))
theorem numL_lt (l : Bs) : numL l < 256 ^ l.length := by
 have := fold_lt l 0
 rw [Nat.zero_add, Nat.one_mul] at this
 exact this
theorem numS_lt (st : St) {k : Int} (hk : k ≤ 4) : (numS st k).1 < 4294967296 := by
 unfold numS
 split
 · split
   · rename_i l hok
     refine Nat.lt_of_lt_of_le (numL_lt _) ?_
     refine Nat.le_trans (Nat.pow_le_pow_right (by omega) (show (l.take k.toNat).length ≤ 4 by rw [List.length_take]; omega)) (by decide)
   · decide
 · decide
theorem numS_byte (st : St) : (numS st 1).1 < 256 := by
 unfold numS
 split
 · split
   · rename_i l hok
     refine Nat.lt_of_lt_of_le (numL_lt _) ?_
     refine Nat.le_trans (Nat.pow_le_pow_right (by omega) (show (l.take (1 : Int).toNat).length ≤ 1 by rw [List.length_take]; exact Nat.min_le_left _ _)) (by decide)
   · decide
 · decide
set_option maxRecDepth 100000 in
set_option maxHeartbeats 4000000 in
theorem small_any (k : Int) (hk : k ≤ 4) (g : Nat) (st : St) (w : World) (h : RfAt w g st) :
 Calls Try.prog 51 #[.pointer (some ⟨g, 0, none⟩), .int .i64 k] w fun e w' => e = .returned (.int .i64 ((numS st k).1 : Int)) ∧ RfAt w' g (numS st k).2 ∧ w.grownBy w' (some g) := by
 have hn := Lib.hid (refNum_any k g st w h)
 have hlt := numS_lt st hk
 obtain ⟨N, hN⟩ : ∃ N, (numS st k).1 = N := ⟨_, rfl⟩
 rw [hN] at hlt hn
 rw [hN]
 have h1 : (N : Int) ≤ 4294967296 := by omega
 clear hN hlt h hk
 go_enter Try.func51, Try.ntmps51
 go_wp2_with fail
 refine hn.out.mono ?_
 rintro e w1 ⟨rfl, hR, hg⟩
 go_wp2
 go_ret
 exact ⟨rfl, hR, hg⟩
theorem digS_snoc (n : Nat) : ∀ st : St, digS (n + 1) st = ((digS n st).1 ++ [UInt8.ofNat (numS (digS n st).2 1).1], (numS (digS n st).2 1).2) := by
 induction n with
 | zero => intro st; rfl
 | succ k ih =>
  intro st
  have h := ih (numS st 1).2
  rw [digS, h]
  simp [digS]
theorem digS_len (n : Nat) : ∀ st : St, (digS n st).1.length = n := by
 induction n with
 | zero => intro st; rfl
 | succ k ih => intro st; simp [digS, ih]
def digP (i : Nat) (st : St) : Bs := (digS i st).1 ++ List.replicate (32 - i) 0
theorem digP_len {i : Nat} (h : i ≤ 32) (st : St) : (digP i st).length = 32 := by simp [digP, digS_len]; omega
theorem digP_set {i : Nat} (h : i < 32) (st : St) : (digP i st).set i (UInt8.ofNat (numS (digS i st).2 1).1) = digP (i + 1) st := by
 unfold digP
 rw [digS_snoc, List.set_append_right _ _ (by rw [digS_len]; omega), digS_len, Nat.sub_self, show 32 - i = (32 - (i + 1)) + 1 by omega, List.replicate_succ, List.set_cons_zero]
 simp
set_option maxRecDepth 100000 in
set_option maxHeartbeats 8000000 in
theorem digest_any (g : Nat) (st : St) (w : World) (h : RfAt w g st) :
 Calls Try.prog 52 #[.pointer (some ⟨g, 0, none⟩)] w fun e w' => e = .returned (.agg ((digS 32 st).1.map u8V).toArray) ∧ RfAt w' g (digS 32 st).2 ∧ w.grownBy w' (some g) := by
 have hgi := h.inside
 obtain ⟨n, hn⟩ : ∃ n, w.heap.size = n := ⟨_, rfl⟩
 obtain ⟨n1, hn1⟩ : ∃ n1, n + 1 = n1 := ⟨_, rfl⟩
 have hC0 := ((Chg.refl n g w).alloc (by omega) (.cells (zD.map u8V).toArray 37)).alloc (by simp; omega) (.cells (zD.map u8V).toArray 37)
 have hO : AtL ((w.alloc (.cells (zD.map u8V).toArray 37)).alloc (.cells (zD.map u8V).toArray 37)) n 37 (zD.map u8V) := by have := (AtL.new w 37 (zD.map u8V)).alloc (.cells (zD.map u8V).toArray 37); rwa [hn] at this
 have hD : AtL ((w.alloc (.cells (zD.map u8V).toArray 37)).alloc (.cells (zD.map u8V).toArray 37)) n1 37 ((digP 0 st).map u8V) := by have := AtL.new (w.alloc (.cells (zD.map u8V).toArray 37)) 37 (zD.map u8V); rwa [World.size_alloc, hn, hn1] at this
 have hR : RfAt ((w.alloc (.cells (zD.map u8V).toArray 37)).alloc (.cells (zD.map u8V).toArray 37)) g (digS 0 st).2 := h.keep (((Below.refl w.heap.size w).alloc (Nat.le_refl _) _).alloc (by simp) _) hgi
 rw [show (zD.map u8V).toArray = #[.int .u8 0, .int .u8 0, .int .u8 0, .int .u8 0, .int .u8 0, .int .u8 0, .int .u8 0, .int .u8 0, .int .u8 0, .int .u8 0, .int .u8 0, .int .u8 0, .int .u8 0, .int .u8 0, .int .u8 0, .int .u8 0, .int .u8 0, .int .u8 0, .int .u8 0, .int .u8 0, .int .u8 0, .int .u8 0, .int .u8 0, .int .u8 0, .int .u8 0, .int .u8 0, .int .u8 0, .int .u8 0, .int .u8 0, .int .u8 0, .int .u8 0, .int .u8 0] from rfl] at hC0 hO hD hR
 go_enter Try.func52, Try.ntmps52
 go_upto_region 2 with fail
 rw [hn] at hgi
 generalize ((w.alloc (.cells #[.int .u8 0, .int .u8 0, .int .u8 0, .int .u8 0, .int .u8 0, .int .u8 0, .int .u8 0, .int .u8 0, .int .u8 0, .int .u8 0, .int .u8 0, .int .u8 0, .int .u8 0, .int .u8 0, .int .u8 0, .int .u8 0, .int .u8 0, .int .u8 0, .int .u8 0, .int .u8 0, .int .u8 0, .int .u8 0, .int .u8 0, .int .u8 0, .int .u8 0, .int .u8 0, .int .u8 0, .int .u8 0, .int .u8 0, .int .u8 0, .int .u8 0, .int .u8 0] 37)).alloc (.cells #[.int .u8 0, .int .u8 0, .int .u8 0, .int .u8 0, .int .u8 0, .int .u8 0, .int .u8 0, .int .u8 0, .int .u8 0, .int .u8 0, .int .u8 0, .int .u8 0, .int .u8 0, .int .u8 0, .int .u8 0, .int .u8 0, .int .u8 0, .int .u8 0, .int .u8 0, .int .u8 0, .int .u8 0, .int .u8 0, .int .u8 0, .int .u8 0, .int .u8 0, .int .u8 0, .int .u8 0, .int .u8 0, .int .u8 0, .int .u8 0, .int .u8 0, .int .u8 0] 37)) = W1 at *
 replace hn := Lib.hid hn
 have hnn : n < n1 := by omega
 replace hn1 := Lib.hid hn1
 clear h
 have hz1 : n1 < W1.heap.size := hD.inside
 have hz1 := Lib.hid hz1
 have hC1 := Lib.hid hC0
 have hO1 := Lib.hid hO
 have hD1 := Lib.hid hD
 have hR1 := Lib.hid hR
 clear hC0 hO hD hR
 go_wp2_with fail
 go_loopw [4] (fun c wr => ∃ i : Nat, c = .int .i64 (i : Int) ∧ i ≤ 32 ∧ Hid (AtL wr n1 37 ((digP i st).map u8V)) ∧ Hid (RfAt wr g (digS i st).2) ∧ Hid (Chg n g w wr) ∧ Hid (AtL wr n 37 (zD.map u8V)))
  (fun c _ => 32 - (RowKit.intOf c).toNat)
 case atStart => exact ⟨0, rfl, by omega, hD1, hR1, hC1, hO1⟩
 case round =>
  obtain ⟨wi, hwi⟩ : ∃ wi, wi = wr := ⟨_, rfl⟩
  subst hwi
  obtain ⟨i, rfl, hi, hDi, hRi, hCi, hOi⟩ := hrel
  clear hD1 hR1 hC1 hO1 hz1
  by_cases hlt : i < 32
  case neg =>
   obtain rfl : i = 32 := by omega
   have hd : digP 32 st = (digS 32 st).1 := by simp [digP]
   have hD2 := hDi.out
   rw [hd] at hD2
   have hl := digS_len 32 st
   have hDl : (zD.map u8V).length = 32 := rfl
   generalize hDe : (digS 32 st).1 = D at *
   replace hDe := Lib.hid hDe
   have hsz := Lib.hid (dig_size hl)
   have hld := Lib.hid (show ∀ j u, (D.map u8V)[j]? = some u → wi.cell? ⟨n1, 0 + j, none⟩ = some u from fun j u hu => by rw [Nat.zero_add]; exact hD2.get hu)
   have hlo := Lib.hid (show 0 + (D.map u8V).length ≤ (zD.map u8V).length by rw [List.length_map, hl]; decide)
   have h1c := Lib.hid (one_u8 (l := D))
   have hO3 : AtL (wi.setRow n (putL (zD.map u8V) 0 (D.map u8V)).toArray) n 37 (D.map u8V) := by
    have := hOi.out.row (putL (zD.map u8V) 0 (D.map u8V))
    rw [put_all (by rw [List.length_map, hl]; rfl)] at this ⊢
    exact this
   have hC3 := Lib.hid (hCi.out.row (g := n) (.inl (Nat.le_refl _)) (putL (zD.map u8V) 0 (D.map u8V)).toArray)
   have hR3 := Lib.hid (hRi.out.keep (below_row (Below.refl n wi) (Nat.le_refl _) (putL (zD.map u8V) 0 (D.map u8V)).toArray) hgi)
   replace hO3 := Lib.hid hO3
   clear hd hl hDl hD2 hlt
   go_wp2_with (first | (refine wpList_load_part_w rfl 37 _ rfl n1 0 rfl (D.map u8V) hld.out _ Try.underlying37 rfl hsz.out ?_) | (refine wpList_store_part rfl 37 _ _ rfl n 0 (D.map u8V) rfl rfl 37 (zD.map u8V) hOi.out hsz.out hlo.out h1c.out ?_))
   refine bodyPost_ret (ret_array rfl rfl hO3.out _ Try.underlying37 rfl hsz.out) rfl ?_
   exact ⟨by rw [hDe.out], hR3.out, chg_new hn.out hC3.out⟩
  obtain ⟨N, hN⟩ : ∃ N, (numS (digS i st).2 1).1 = N := ⟨_, rfl⟩
  have hnum := Lib.hid (refNum_any 1 g _ wi hRi.out)
  have hN8 := numS_byte (digS i st).2
  have hps := digP_set hlt st
  have hst : (numS (digS i st).2 1).2 = (digS (i + 1) st).2 := by rw [digS_snoc]
  rw [hst, hN] at hnum
  rw [hN] at hN8 hps
  have hN9 : (N : Int) ≤ 255 := by omega
  have hpl := digP_len (Nat.le_of_lt hlt) st
  have hlt' : (i : Int) < 32 := by omega
  obtain ⟨c, hc⟩ : ∃ c, ((digP i st).map u8V)[i]? = some c := ⟨_, List.getElem?_eq_getElem (by rw [List.length_map, hpl]; exact hlt)⟩
  have hv := ofNat_toNat hN8
  replace hst := Lib.hid hst
  replace hps := Lib.hid hps
  replace hpl := Lib.hid hpl
  have hltH := Lib.hid hlt
  clear hN hN8 hlt
  go_wp2_with fail
  refine hnum.out.mono ?_
  rintro e w1 ⟨rfl, hRn, hgn⟩
  have hDn := atL_grown hDi.out hgn (by omega)
  have hOn := Lib.hid (atL_grown hOi.out hgn (by omega))
  have hCn := Lib.hid (hCi.out.trans (chg_grown hgn (Nat.le_trans (Nat.le_of_lt hnn) (Nat.le_of_lt hDi.out.inside))))
  have hcc := (hDn.cell i).trans hc
  have hff := hDn.free i
  replace hDn := Lib.hid hDn
  replace hRn := Lib.hid hRn
  clear hgn hnum
  go_wp2_with fail
  go_roundw
  case rel => exact ⟨i + 1, by go_num, by have := hltH.out; omega, Lib.hid (by
   have := hDn.out.put i (u8V (UInt8.ofNat N))
   rw [← List.map_set, hps.out, u8V, hv] at this
   exact this), Lib.hid (hRn.out.keep (below_set (Below.refl n w1) (Nat.le_of_lt hnn) i (.int .u8 (N : Int))) hgi), Lib.hid (hCn.out.set (.inl (Nat.le_of_lt hnn)) i (.int .u8 (N : Int))), Lib.hid (hOn.out.far (by omega) i (.int .u8 (N : Int)))⟩
  case measure => have := hltH.out; simp [RowKit.intOf]; omega
end Go.Proofs.Ytpefdmkfmcjfnaa.Ms
namespace Go.Proofs.Ytpefdmkfmcjfnaa.Ms
open Go.Proofs.Ytpefdmkfmcjfnaa.Oct
set_option linter.unusedVariables false
theorem num_lay {x : Int} {k : Nat} (h1 : 1 ≤ k) (h8 : k ≤ 8) (h0 : 0 ≤ x) (hx : x.toNat < 2 ^ (8 * k)) (tl : Bs) : numS (some (lay1 x k ++ tl)) (k : Int) = (x.toNat, some tl) := numS_front h1 h8 hx tl
theorem num_end {x : Int} {k : Nat} (h1 : 1 ≤ k) (h8 : k ≤ 8) (h0 : 0 ≤ x) (hx : x.toNat < 2 ^ (8 * k)) : numS (some (lay1 x k)) (k : Int) = (x.toNat, some []) := by
 have := num_lay h1 h8 h0 hx []
 rwa [List.append_nil] at this
theorem num1 {x : Int} (h : 0 ≤ x ∧ x < 256) (tl : Bs) : numS (some (lay1 x 1 ++ tl)) 1 = (x.toNat, some tl) := num_lay (k := 1) (by omega) (by omega) h.1 (by omega) tl
theorem num2 {x : Int} (h : 0 ≤ x ∧ x < 65536) (tl : Bs) : numS (some (lay1 x 2 ++ tl)) 2 = (x.toNat, some tl) := num_lay (k := 2) (by omega) (by omega) h.1 (by omega) tl
theorem num2e {x : Int} (h : 0 ≤ x ∧ x < 65536) : numS (some (lay1 x 2)) 2 = (x.toNat, some []) := num_end (k := 2) (by omega) (by omega) h.1 (by omega)
theorem num4 {x : Int} (h : 0 ≤ x ∧ x < 4294967296) (tl : Bs) : numS (some (lay1 x 4 ++ tl)) 4 = (x.toNat, some tl) := num_lay (k := 4) (by omega) (by omega) h.1 (by omega) tl
theorem num8 {n : Nat} (h : n < 18446744073709551616) (tl : Bs) : numS (some (laidL n 8 ++ tl)) 8 = (n, some tl) := numS_front (k := 8) (by omega) (by omega) (by omega) tl
theorem num8e {n : Nat} (h : n < 18446744073709551616) : numS (some (laidL n 8)) 8 = (n, some []) := by
 have := num8 h []
 rwa [List.append_nil] at this
theorem num_one (b : UInt8) (tl : Bs) : numS (some (b :: tl)) 1 = (b.toNat, some tl) := by
 have hb := b.toNat_lt
 have := num1 (x := (b.toNat : Int)) ⟨by omega, by omega⟩ tl
 have e : lay1 (b.toNat : Int) 1 = [b] := by
  simp only [lay1, Int.toNat_natCast, laidL]
  simp [Nat.mod_eq_of_lt hb]
 rw [e] at this
 simpa using this
theorem dig_front (d : Bs) : ∀ tl : Bs, digS d.length (some (d ++ tl)) = (d, some tl) := by
 induction d with
 | nil => intro tl; rfl
 | cons b t ih =>
  intro tl
  rw [List.length_cons, digS, List.cons_append, num_one]
  simp only [ih, UInt8.ofNat_toNat]
theorem dig32 {d : Bs} (h : d.length = 32) (tl : Bs) : digS 32 (some (d ++ tl)) = (d, some tl) := by
 have := dig_front d tl
 rwa [h] at this
theorem dig32e {d : Bs} (h : d.length = 32) : digS 32 (some d) = (d, some []) := by
 have := dig32 h []
 rwa [List.append_nil] at this
theorem mark_front (l : List (Int × Bs)) (h : ∀ p ∈ l, (0 ≤ p.1 ∧ p.1 < 256) ∧ p.2.length = 32) : ∀ tl : Bs, markS l.length (some (marksL l ++ tl)) = (l, some tl) := by
 induction l with
 | nil => intro tl; rfl
 | cons p t ih =>
  intro tl
  obtain ⟨h1, h2⟩ := h p (List.mem_cons_self ..)
  have ih := ih (fun q hq => h q (List.mem_cons_of_mem _ hq))
  have e : marksL (p :: t) ++ tl = lay1 p.1 1 ++ (p.2 ++ (marksL t ++ tl)) := by simp [marksL, markL]
  rw [e, List.length_cons, markS]
  simp only [num1 h1, dig32 h2, ih]
  have : ((p.1.toNat : Nat) : Int) = p.1 := by omega
  rw [this]
theorem rq_front {r : Rq} (h : chkR r = 0) : rqS (some (rqL r)) = (r, some []) := by
 rw [chkR, Order.chk_iff, Place.mayB_iff, Place.mayB_iff, Window.okB_iff, Window.okB_iff] at h
 obtain ⟨fx, fy, tx, ty, pe, pl, de, dl, ld, sv⟩ := r
 simp only at h
 unfold rqS rqL
 simp only
 rw [num2 ⟨by omega, by omega⟩, num2 ⟨by omega, by omega⟩, num2 ⟨by omega, by omega⟩, num2 ⟨by omega, by omega⟩, num4 ⟨by omega, by omega⟩, num4 ⟨by omega, by omega⟩, num4 ⟨by omega, by omega⟩, num4 ⟨by omega, by omega⟩, num2 ⟨by omega, by omega⟩, num2e ⟨by omega, by omega⟩]
 simp
 omega
theorem read_body {m : Ms} (hm : m.ok) (hw : m.wide) (h : mayB m = true) : readS m.kind (some (bodyL m)) = (m, some []) := by
 obtain ⟨hh, hb, hk⟩ := may_parts h
 have hr : (0 : Int) ≤ m.rnd ∧ m.rnd < 256 := by omega
 have tr : ((m.rnd.toNat : Nat) : Int) = m.rnd := by omega
 unfold kindB at hk
 unfold readS bodyL partL
 by_cases e1 : m.kind = 1
 · rw [if_pos e1, decide_eq_true_eq] at hk
   obtain ⟨i1, i2, i3, i4, i5⟩ := hk
   have t1 : ((m.req.toNat : Nat) : Int) = m.req := by omega
   have t2 : ((m.rsv.toNat : Nat) : Int) = m.rsv := by omega
   simp only [if_pos e1, num1 hr, num1 (x := m.req) ⟨by omega, by omega⟩, num4 (x := m.rsv) ⟨by omega, by omega⟩, rq_front i5, tr, t1, t2]
   refine congrArg (fun a => (a, some [])) (Eq.trans ?_ hb.symm)
   unfold bareM
   rw [if_pos e1]
 by_cases e2 : m.kind = 2
 · rw [if_neg e1, if_pos e2, carB_iff] at hk
   have t1 : ((m.car.toNat : Nat) : Int) = m.car := by omega
   simp only [if_neg e1, if_pos e2, num1 hr, num1 (x := m.car) ⟨by omega, by omega⟩, dig32e hm.dig, tr, t1]
   refine congrArg (fun a => (a, some [])) (Eq.trans ?_ hb.symm)
   unfold bareM
   rw [if_neg e1, if_pos e2]
 by_cases e4 : m.kind = 4
 · rw [if_neg e1, if_neg e2, if_pos e4, Bool.and_eq_true, carB_iff] at hk
   have e3 : ¬ m.kind = 3 := by omega
   have t1 : ((m.car.toNat : Nat) : Int) = m.car := by omega
   simp only [if_neg e1, if_neg e2, if_neg e3, if_pos e4, num1 hr, num1 (x := m.car) ⟨by omega, by omega⟩, num8 hw.bid, num8e hw.nonce, tr, t1]
   refine congrArg (fun a => (a, some [])) (Eq.trans ?_ hb.symm)
   unfold bareM
   rw [if_neg e1, if_neg e2, if_neg e3, if_pos e4]
 by_cases e5 : m.kind = 5
 · rw [if_neg e1, if_neg e2, if_neg e4, if_pos e5] at hk
   have e3 : ¬ m.kind = 3 := by omega
   have ho : (0 ≤ m.oc.st ∧ m.oc.st < 256) ∧ (0 ≤ m.oc.wn + 1 ∧ m.oc.wn + 1 < 256) := by
    unfold ocB at hk
    split at hk
    · rw [decide_eq_true_eq] at hk; omega
    · rw [decide_eq_true_eq] at hk; omega
   have t1 : ((m.oc.st.toNat : Nat) : Int) = m.oc.st := by omega
   have t2 : (((m.oc.wn + 1).toNat : Nat) : Int) - 1 = m.oc.wn := by omega
   simp only [if_neg e1, if_neg e2, if_neg e3, if_neg e4, if_pos e5, num1 hr, num1 (x := m.oc.st) ho.1, num1 (x := m.oc.wn + 1) ho.2, num8e hw.pr, tr, t1, t2]
   refine congrArg (fun a => (a, some [])) (Eq.trans ?_ hb.symm)
   unfold bareM
   rw [if_neg e1, if_neg e2, if_neg e3, if_neg e4, if_pos e5]
 · rw [if_neg e1, if_neg e2, if_neg e4, if_neg e5] at hk
   have e3 : m.kind = 3 := by omega
   have hl := up_len hk
   have hf : ∀ p ∈ m.marks, (0 ≤ p.1 ∧ p.1 < 256) ∧ p.2.length = 32 := fun p hp => by
    obtain ⟨i, hi⟩ := List.mem_iff_getElem?.1 hp
    have := up_ge hk i p hi
    exact ⟨⟨by omega, by omega⟩, hm.marks p hp⟩
   have hn : numS (some (laidL m.marks.length 1 ++ marksL m.marks)) 1 = (m.marks.length, some (marksL m.marks)) := numS_front (k := 1) (by omega) (by omega) (by omega) _
   have hk3 := mark_front m.marks hf []
   rw [List.append_nil] at hk3
   simp only [if_neg e1, if_neg e2, if_pos e3, if_neg e4, if_neg e5, num1 hr, hn, hk3, tr]
   refine congrArg (fun a => (a, some [])) (Eq.trans ?_ hb.symm)
   unfold bareM
   rw [if_neg e1, if_neg e2, if_pos e3]
theorem ofNat_m (k : Nat) : UInt8.ofNat (k % 256) = UInt8.ofNat k := by
 apply UInt8.toNat_inj.1
 rw [UInt8.toNat_ofNat', UInt8.toNat_ofNat']
 omega
theorem frameL_eq (k : Nat) (b : Bs) : frameL k b = Fr.frL k b := by
 simp only [frameL, Fr.frL, laidL, List.cons_append, List.nil_append]
 simp [ofNat_m]
theorem dec_enc {m : Ms} (hm : m.ok) (hw : m.wide) (h : mayB m = true) : decS (encL m) = (m, 0) := by
 have hh := (may_parts h).1
 have hl := body_len hm (may_fits h hw)
 have hf : Fr.front (encL m) = some ⟨m.kind.toNat, bodyL m, []⟩ := by
  rw [encL, if_pos h, frameL_eq]
  have := Fr.front_lay (k := m.kind.toNat) (b := bodyL m) (by omega) (by omega) []
  rwa [List.append_nil] at this
 have tk : ((m.kind.toNat : Nat) : Int) = m.kind := by omega
 unfold decS
 rw [hf]
 simp only [tk]
 rw [if_neg (by simp; omega)]
 unfold bodyM
 rw [read_body hm hw h]
 simp [h]
end Go.Proofs.Ytpefdmkfmcjfnaa.Ms

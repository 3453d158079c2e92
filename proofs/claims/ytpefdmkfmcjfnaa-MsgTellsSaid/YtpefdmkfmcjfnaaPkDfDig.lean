import Derived.Test.YtpefdmkfmcjfnaaPkFrCount
import Derived.Great.BuildSlice

namespace Go.Proofs.Ytpefdmkfmcjfnaa.Df
open Go.RowKit Go.Sort Go.Proofs.Ytpefdmkfmcjfnaa.Mem Go.Proofs.Ytpefdmkfmcjfnaa.Route Go.Proofs.Ytpefdmkfmcjfnaa.Oct Go.Proofs.Ytpefdmkfmcjfnaa.Ms Go.Proofs.Ytpefdmkfmcjfnaa.Part Go.Proofs.Ytpefdmkfmcjfnaa.Mp
set_option linter.unusedVariables false
structure Dr where
 kd : Nat
 n0 : Nat
 n1 : Nat
 n2 : Nat
 n3 : Nat
 n4 : Nat
 n5 : Nat
 n6 : Nat
 n7 : Nat
 b0 : Nat
 b1 : Nat
 bs : Bs
structure Dr.ok (d : Dr) : Prop where
 kd : d.kd < 256
 n0 : d.n0 < 65536
 n1 : d.n1 < 65536
 n2 : d.n2 < 65536
 n3 : d.n3 < 65536
 n4 : d.n4 < 65536
 n5 : d.n5 < 65536
 n6 : d.n6 < 65536
 n7 : d.n7 < 65536
 b0 : d.b0 < 18446744073709551616
 b1 : d.b1 < 18446744073709551616
def drN (d : Dr) : List Value := [.int .u16 (d.n0 : Int), .int .u16 (d.n1 : Int), .int .u16 (d.n2 : Int), .int .u16 (d.n3 : Int), .int .u16 (d.n4 : Int), .int .u16 (d.n5 : Int), .int .u16 (d.n6 : Int), .int .u16 (d.n7 : Int)]
def drC (d : Dr) (v : Value) : List Value := [.int .u8 (d.kd : Int), .int .u16 (d.n0 : Int), .int .u16 (d.n1 : Int), .int .u16 (d.n2 : Int), .int .u16 (d.n3 : Int), .int .u16 (d.n4 : Int), .int .u16 (d.n5 : Int), .int .u16 (d.n6 : Int), .int .u16 (d.n7 : Int), .int .u64 (d.b0 : Int), .int .u64 (d.b1 : Int), v]
def byC (b : UInt8) : List Value := [u8V b]
def BytesAt (B : Nat) (w : World) (v : Value) (l : Bs) : Prop := RowB B w v 1 (l.map byC)
theorem byte_at {B : Nat} {W : World} {x : Option Addr} {n cap : Nat} {l : Bs} (h : BytesAt B W (.slice x n cap) l) {k : Nat} {p : UInt8} (hk : l[k]? = some p) :
 ∃ g o, x = some ⟨g, o, none⟩ ∧ g < B ∧ W.cell? ⟨g, o + k, none⟩ = some (u8V p) := by
 obtain ⟨g, o, e, hg, hc⟩ := RowB.row h (j := k) (r := byC p) (by rw [List.getElem?_map, hk]; rfl)
 exact ⟨g, o, e, hg, by have := hc 0 (u8V p) rfl; rwa [Nat.mul_one] at this⟩
theorem bytes_len {B : Nat} {W : World} {x : Option Addr} {n cap : Nat} {l : Bs} (h : BytesAt B W (.slice x n cap) l) : l.length = n := by
 obtain ⟨x', cap', e, -⟩ := h
 cases e
 simp
theorem bytes_max {B : Nat} {W : World} {x : Option Addr} {n cap : Nat} {l : Bs} (h : BytesAt B W (.slice x n cap) l) : (n : Int) ≤ 9223372036854775807 := by
 obtain ⟨x', cap', e, h1, h2, -⟩ := h
 cases e
 unfold maxLen at h2
 omega
def digM (bs : Bs) (F : Nat) : Bs := if bs = [] then zD else (List.range 32).map fun i => bs.getD ((F + i) % bs.length) 0 + UInt8.ofNat F
theorem digM_len (bs : Bs) (F : Nat) : (digM bs F).length = 32 := by
 unfold digM
 split
 · rfl
 · simp
def digQ (bs : Bs) (F i : Nat) : Bs := (digM bs F).take i ++ List.replicate (32 - i) 0
theorem digQ_len {bs : Bs} {F i : Nat} (h : i ≤ 32) : (digQ bs F i).length = 32 := by simp [digQ, digM_len]; omega
theorem digQ_all (bs : Bs) (F : Nat) : digQ bs F 32 = digM bs F := by
 unfold digQ
 rw [List.take_of_length_le (by rw [digM_len]; omega)]
 simp
theorem digQ_none (F : Nat) (i : Nat) (h : i ≤ 32) : digQ [] F i = digM [] F := by
 have hz : digM [] F = List.replicate 32 0 := rfl
 unfold digQ
 rw [hz, List.take_replicate, List.replicate_append_replicate]
 congr 1
 omega
theorem digM_get {bs : Bs} {F i : Nat} (hb : bs ≠ []) (h : i < 32) {b : UInt8} (hx : bs[(F + i) % bs.length]? = some b) : (digM bs F)[i]? = some (b + UInt8.ofNat F) := by
 unfold digM
 rw [if_neg hb, List.getElem?_map, List.getElem?_range h, Option.map_some, List.getD_eq_getElem?_getD, hx]
 rfl
theorem digQ_set {bs : Bs} {F i : Nat} (hb : bs ≠ []) (h : i < 32) {b : UInt8} (hx : bs[(F + i) % bs.length]? = some b) : (digQ bs F i).set i (b + UInt8.ofNat F) = digQ bs F (i + 1) := by
 have hl : ((digM bs F).take i).length = i := by rw [List.length_take, digM_len]; omega
 unfold digQ
 rw [List.set_append_right _ _ (by rw [hl]; exact Nat.le_refl _), hl, Nat.sub_self, show 32 - i = (32 - (i + 1)) + 1 by omega, List.replicate_succ, List.set_cons_zero, take_next (digM_get hb h hx)]
 simp
set_option maxRecDepth 100000 in
set_option maxHeartbeats 8000000 in
theorem digest_any (d : Dr) (x : Option Addr) (L cap : Nat) (Fi : Int) (F : Nat) (hFi : Fi = (F : Int)) (hF : F ≤ 7) (w : World) (hb : BytesAt w.heap.size w (.slice x L cap) d.bs) :
 Calls Try.prog 22 #[.agg (drC d (.slice x L cap)).toArray, .int .i64 Fi] w fun e w' => e = .returned (.agg ((digM d.bs F).map u8V).toArray) ∧ Below w.heap.size w w' := by
 subst hFi
 have hLl := bytes_len hb
 have hLm := bytes_max hb
 obtain ⟨n, hn⟩ : ∃ n, w.heap.size = n := ⟨_, rfl⟩
 have hD : At (((w.alloc (.cells (drC d (.slice x L cap)).toArray 28)).alloc (.cells (zD.map u8V).toArray 37)).alloc (.cells (zD.map u8V).toArray 37)) n 28 (drC d (.slice x L cap)).toArray := by rw [← hn]; exact ((At.new w _ _).alloc _).alloc _
 have hR : AtL (((w.alloc (.cells (drC d (.slice x L cap)).toArray 28)).alloc (.cells (zD.map u8V).toArray 37)).alloc (.cells (zD.map u8V).toArray 37)) (n + 1) 37 (zD.map u8V) := by
  have := AtL.new (w.alloc (.cells (drC d (.slice x L cap)).toArray 28)) 37 (zD.map u8V)
  rw [World.size_alloc, hn] at this
  exact this.alloc _
 have hG : AtL (((w.alloc (.cells (drC d (.slice x L cap)).toArray 28)).alloc (.cells (zD.map u8V).toArray 37)).alloc (.cells (zD.map u8V).toArray 37)) (n + 1 + 1) 37 ((digQ d.bs F 0).map u8V) := by
  have := AtL.new ((w.alloc (.cells (drC d (.slice x L cap)).toArray 28)).alloc (.cells (zD.map u8V).toArray 37)) 37 (zD.map u8V)
  rwa [World.size_alloc, World.size_alloc, hn] at this
 have hB : Below w.heap.size w (((w.alloc (.cells (drC d (.slice x L cap)).toArray 28)).alloc (.cells (zD.map u8V).toArray 37)).alloc (.cells (zD.map u8V).toArray 37)) := (((Below.refl _ _).alloc (Nat.le_refl _) _).alloc (by simp) _).alloc (by simp; omega) _
 rw [show (zD.map u8V).toArray = #[.int .u8 0, .int .u8 0, .int .u8 0, .int .u8 0, .int .u8 0, .int .u8 0, .int .u8 0, .int .u8 0, .int .u8 0, .int .u8 0, .int .u8 0, .int .u8 0, .int .u8 0, .int .u8 0, .int .u8 0, .int .u8 0, .int .u8 0, .int .u8 0, .int .u8 0, .int .u8 0, .int .u8 0, .int .u8 0, .int .u8 0, .int .u8 0, .int .u8 0, .int .u8 0, .int .u8 0, .int .u8 0, .int .u8 0, .int .u8 0, .int .u8 0, .int .u8 0] from rfl] at hD hR hG hB
 obtain ⟨D, hDe⟩ : ∃ D, digM d.bs F = D := ⟨_, rfl⟩
 rw [hDe]
 replace hDe := Lib.hid hDe
 go_enter Try.func22, Try.ntmps22
 go_upto_region 2 with fail
 generalize (((w.alloc (.cells (drC d (.slice x L cap)).toArray 28)).alloc (.cells #[.int .u8 0, .int .u8 0, .int .u8 0, .int .u8 0, .int .u8 0, .int .u8 0, .int .u8 0, .int .u8 0, .int .u8 0, .int .u8 0, .int .u8 0, .int .u8 0, .int .u8 0, .int .u8 0, .int .u8 0, .int .u8 0, .int .u8 0, .int .u8 0, .int .u8 0, .int .u8 0, .int .u8 0, .int .u8 0, .int .u8 0, .int .u8 0, .int .u8 0, .int .u8 0, .int .u8 0, .int .u8 0, .int .u8 0, .int .u8 0, .int .u8 0, .int .u8 0] 37)).alloc (.cells #[.int .u8 0, .int .u8 0, .int .u8 0, .int .u8 0, .int .u8 0, .int .u8 0, .int .u8 0, .int .u8 0, .int .u8 0, .int .u8 0, .int .u8 0, .int .u8 0, .int .u8 0, .int .u8 0, .int .u8 0, .int .u8 0, .int .u8 0, .int .u8 0, .int .u8 0, .int .u8 0, .int .u8 0, .int .u8 0, .int .u8 0, .int .u8 0, .int .u8 0, .int .u8 0, .int .u8 0, .int .u8 0, .int .u8 0, .int .u8 0, .int .u8 0, .int .u8 0] 37)) = W at hD hR hG hB ⊢
 obtain ⟨p, hp⟩ : ∃ p, n + 1 = p := ⟨_, rfl⟩
 obtain ⟨q, hq⟩ : ∃ q, p + 1 = q := ⟨_, rfl⟩
 rw [hp] at hR hG
 rw [hq] at hG
 try simp only [hp, hq]
 have hnp : n < p := by omega
 have hpq : p < q := by omega
 have hnH := Lib.hid hn
 clear hp hq
 have hbW := Lib.hid (hb.keep hB (Nat.le_refl _))
 rw [hn] at hbW
 have hle : w.heap.size ≤ q := by omega
 have hle2 : w.heap.size ≤ p := by omega
 replace hD := Lib.hid hD
 replace hR := Lib.hid hR
 replace hG := Lib.hid hG
 replace hB := Lib.hid hB
 have hLlH := Lib.hid hLl
 clear hb hn
 go_wp2_with fail
 go_loopw [6] (fun c wr => ∃ i : Nat, c = .int .i64 (i : Int) ∧ i ≤ 32 ∧ Hid (At wr n 28 (drC d (.slice x L cap)).toArray) ∧ Hid (AtL wr p 37 (zD.map u8V)) ∧ Hid (AtL wr q 37 ((digQ d.bs F i).map u8V)) ∧ Hid (Below w.heap.size w wr) ∧ Hid (BytesAt n wr (.slice x L cap) d.bs))
  (fun c _ => 32 - (RowKit.intOf c).toNat)
 case atStart => exact ⟨0, rfl, by omega, hD, hR, hG, hB, hbW⟩
 case round =>
  obtain ⟨wi, hwi⟩ : ∃ wi, wi = wr := ⟨_, rfl⟩
  subst hwi
  obtain ⟨i, rfl, hi, hDi, hRi, hGi, hBi, hbi⟩ := hrel
  clear hD hR hG hB hbW
  have c11 : wi.cell? ⟨n, 11, none⟩ = some (.slice x L cap) := (At.cell hDi.out 11).trans rfl
  by_cases hgo : i < 32 ∧ 0 < L
  case neg =>
   have hfin : digQ d.bs F i = digM d.bs F := by
    by_cases h32 : i < 32
    · have hL0 : d.bs = [] := List.eq_nil_of_length_eq_zero (by rw [hLlH.out]; omega)
      rw [hL0]
      exact digQ_none F i hi
    · obtain rfl : i = 32 := by omega
      exact digQ_all _ _
   have hGf := hGi.out
   rw [hfin] at hGf
   have hDl := digM_len d.bs F
   rw [hDe.out] at hGf hDl
   have hsz := Lib.hid (dig_size hDl)
   have hld := Lib.hid (show ∀ j u, (D.map u8V)[j]? = some u → wi.cell? ⟨q, 0 + j, none⟩ = some u from fun j u hu => by rw [Nat.zero_add]; exact hGf.get hu)
   have hlo := Lib.hid (show 0 + (D.map u8V).length ≤ (zD.map u8V).length by rw [List.length_map, hDl]; decide)
   have h1c := Lib.hid (one_u8 (l := D))
   have hO3 := Lib.hid (atL_eq (hRi.out.row (putL (zD.map u8V) 0 (D.map u8V))) (put_all (by rw [List.length_map, hDl]; rfl)))
   have hB3 := Lib.hid (below_row hBi.out hle2 (putL (zD.map u8V) 0 (D.map u8V)).toArray)
   clear hfin hGf hDl hDi hGi hbi
   by_cases h32 : i < 32
   · have h32' : (i : Int) < 32 := by omega
     have hL0 : L = 0 := by omega
     subst hL0
     have u0 : decide ((0 : Int) > 0) = false := by decide
     clear h32 hgo
     go_wp2_with (first | (refine wpList_load_part_w rfl 37 _ rfl q 0 rfl (D.map u8V) hld.out _ Try.underlying37 rfl hsz.out ?_) | (refine wpList_store_part rfl 37 _ _ rfl p 0 (D.map u8V) rfl rfl 37 (zD.map u8V) hRi.out hsz.out hlo.out h1c.out ?_))
     refine bodyPost_ret (ret_array rfl rfl hO3.out _ Try.underlying37 rfl hsz.out) rfl ?_
     exact ⟨rfl, hB3.out⟩
   · obtain rfl : i = 32 := by omega
     clear h32 hgo
     go_wp2_with (first | (refine wpList_load_part_w rfl 37 _ rfl q 0 rfl (D.map u8V) hld.out _ Try.underlying37 rfl hsz.out ?_) | (refine wpList_store_part rfl 37 _ _ rfl p 0 (D.map u8V) rfl rfl 37 (zD.map u8V) hRi.out hsz.out hlo.out h1c.out ?_))
     refine bodyPost_ret (ret_array rfl rfl hO3.out _ Try.underlying37 rfl hsz.out) rfl ?_
     exact ⟨rfl, hB3.out⟩
  obtain ⟨h32, hL0⟩ := hgo
  have hne : d.bs ≠ [] := by intro e; rw [e] at hLlH; have := hLlH.out; simp at this; omega
  obtain ⟨r, hr⟩ : ∃ r, (F + i) % L = r := ⟨_, rfl⟩
  have hrL : r < L := by rw [← hr]; exact Nat.mod_lt _ hL0
  obtain ⟨b, hbr⟩ : ∃ b, d.bs[r]? = some b := ⟨_, List.getElem?_eq_getElem (by rw [hLlH.out]; exact hrL)⟩
  obtain ⟨g, o, rfl, hgn, hcb⟩ := byte_at hbi.out hbr
  have hset := digQ_set (F := F) hne h32 (b := b) (by rw [hLlH.out, hr]; exact hbr)
  have hrem : ((F : Int) + (i : Int)).tmod (L : Int) = (r : Int) := by rw [← hr]; rfl
  have hadd : IntKind.u8.wrap ((b.toNat : Int) + (F : Int)) = ((b + UInt8.ofNat F).toNat : Int) := by
   rw [UInt8.toNat_add, UInt8.toNat_ofNat', Nat.mod_eq_of_lt (by omega : F < 2 ^ 8)]
   unfold IntKind.wrap
   rfl
  have hval := Lib.hid (show Value.int .u8 (((b.toNat : Int) + (F : Int)) % 256) = u8V (b + UInt8.ofNat F) by rw [u8V, ← hadd]; rfl)
  have k11 := cell_regrown c11
  have kb := cell_regrown (show wi.cell? ⟨g, o + r, none⟩ = some (.int .u8 (b.toNat : Int)) from hcb)
  have hb8 : (b.toNat : Int) < 256 := by have := b.toNat_lt; omega
  have hz := hBi.out.size
  have h32' : (i : Int) < 32 := by omega
  have hL1 : (0 : Int) < (L : Int) := by omega
  have hrL' : (r : Int) < (L : Int) := by omega
  have hF' : (F : Int) ≤ 7 := by omega
  replace hset := Lib.hid hset
  have h32H := Lib.hid h32
  clear hr hbr hcb h32 hne
  go_upto_region 5 with fail
  refine Tail.wp_region_below_tail 16 (by kernel_rfl) (by kernel_rfl) (by kernel_rfl) ?_
  simp only [List.take_succ_cons, List.take_zero, List.drop_succ_cons, List.drop_zero]
  repeat (go_big_quiet_step (fail))
  refine wpQuiet_nil ?_
  intro _ hw'
  obtain ⟨⟨dq, osq⟩, hw''⟩ := hw'
  subst hw''
  have hbq := below_regrown wi dq osq
  have hD2 := At.keep hDi.out hbq (At.inside hDi.out)
  have hR2 := hRi.out.on hbq
  have hG2 := hGi.out.on hbq
  have hB2 := hBi.out.trans (hbq.mono hz)
  have hn2 : n ≤ wi.heap.size := Nat.le_of_lt (At.inside hDi.out)
  have hb2 := hbi.out.keep hbq hn2
  clear k11 kb c11 hbq hn2 hDi hRi hGi hBi hbi
  generalize grow (redrawn wi dq) osq = w2 at *
  have fq := hG2.free i
  obtain ⟨y, hy⟩ : ∃ y, ((digQ d.bs F i).map u8V)[i]? = some y := ⟨_, List.getElem?_eq_getElem (by rw [List.length_map, digQ_len hi]; exact h32H.out)⟩
  have cq := hG2.get hy
  have hG3 := Lib.hid (show AtL (w2.setCell ⟨q, i, none⟩ (.int .u8 (((b.toNat : Int) + (F : Int)) % 256))) q 37 ((digQ d.bs F (i + 1)).map u8V) from atL_eq (hG2.put i (.int .u8 (((b.toNat : Int) + (F : Int)) % 256))) (by rw [show Value.int .u8 (((b.toNat : Int) + (F : Int)) % 256) = u8V (b + UInt8.ofNat F) from hval.out, ← List.map_set, hset.out]))
  have hD3 := Lib.hid (hD2.far (b := q) (by omega) i (.int .u8 (((b.toNat : Int) + (F : Int)) % 256)))
  have hR3 := Lib.hid (hR2.far (b := q) (by omega) i (.int .u8 (((b.toNat : Int) + (F : Int)) % 256)))
  have hB3 := Lib.hid (hB2.setCell (p := ⟨q, i, none⟩) hle (.int .u8 (((b.toNat : Int) + (F : Int)) % 256)))
  have hb3 := Lib.hid (RowB.keep hb2 (below_set (Below.refl n w2) (show n ≤ q by omega) i (.int .u8 (((b.toNat : Int) + (F : Int)) % 256))) (Nat.le_refl _))
  clear hD2 hR2 hG2 hB2 hb2 hy
  go_wp2_with fail
  go_roundw
  case rel => exact ⟨i + 1, by go_num, by have := h32H.out; omega, hD3, hR3, hG3, hB3, hb3⟩
  case measure => have := h32H.out; simp [RowKit.intOf]; omega
theorem list32 {D : Bs} (h : D.length = 32) : ∃ b0 b1 b2 b3 b4 b5 b6 b7 b8 b9 b10 b11 b12 b13 b14 b15 b16 b17 b18 b19 b20 b21 b22 b23 b24 b25 b26 b27 b28 b29 b30 b31, D = [b0, b1, b2, b3, b4, b5, b6, b7, b8, b9, b10, b11, b12, b13, b14, b15, b16, b17, b18, b19, b20, b21, b22, b23, b24, b25, b26, b27, b28, b29, b30, b31] := by
 match D, h with
 | [b0, b1, b2, b3, b4, b5, b6, b7, b8, b9, b10, b11, b12, b13, b14, b15, b16, b17, b18, b19, b20, b21, b22, b23, b24, b25, b26, b27, b28, b29, b30, b31], _ => exact ⟨b0, b1, b2, b3, b4, b5, b6, b7, b8, b9, b10, b11, b12, b13, b14, b15, b16, b17, b18, b19, b20, b21, b22, b23, b24, b25, b26, b27, b28, b29, b30, b31, rfl⟩
set_option maxRecDepth 100000 in
theorem built_mark (i : Int) (D : Bs) (h : D.length = 32) : Try.prog.built 65 [(0, .int .i64 i), (1, .agg (D.map u8V).toArray)] = some (markC (i, D)).toArray := by
 obtain ⟨b0, b1, b2, b3, b4, b5, b6, b7, b8, b9, b10, b11, b12, b13, b14, b15, b16, b17, b18, b19, b20, b21, b22, b23, b24, b25, b26, b27, b28, b29, b30, b31, rfl⟩ := list32 h
 kernel_rfl
set_option maxRecDepth 100000 in
theorem fill_mark (i : Int) (D : Bs) (h : D.length = 32) : Instr.fill (fun i => some (i * 33, 33)) ((Array.range (1 * 33)).map ((markC zM).toArray[· % (markC zM).toArray.size]!)) [(0, .agg (markC (i, D)).toArray)] = some (markC (i, D)).toArray := by
 obtain ⟨b0, b1, b2, b3, b4, b5, b6, b7, b8, b9, b10, b11, b12, b13, b14, b15, b16, b17, b18, b19, b20, b21, b22, b23, b24, b25, b26, b27, b28, b29, b30, b31, rfl⟩ := list32 h
 kernel_rfl
theorem wpList_mark {ops : Array Oper} {rest : List Oper} {o : Oper} {a : Act} {w : World} {Q : Exit → Act → World → Prop} (hg : o.guard = none) (x : Operand) (ho : o.op = .buildSlice 38 1 #[(0, x)]) (i : Int) (D : Bs) (hD : D.length = 32) (hx : a.eval x = .agg (markC (i, D)).toArray)
 (h : wpList Try.prog ops Q rest (a.put o.dst (.slice (some ⟨w.heap.size, 0, none⟩) 1 1)) (w.alloc (.cells (markC (i, D)).toArray 65))) : wpList Try.prog ops Q (o :: rest) a w := by
 obtain ⟨i0, hi, h0, h1, h2⟩ := info_parts info_mark
 refine wpList_buildSlice hg 38 65 1 _ ho _ i0 _ Try.underlying38 hi h0 (by rw [h1]; decide) (by rw [h1]; decide) ?_ h
 have hp : ((#[(0, x)] : Array (Nat × Operand)).map fun (i, x) => (i, a.eval x)).toList = [(0, .agg (markC (i, D)).toArray)] := by simp [hx]
 rw [hp, h1]
 exact fill_mark i D hD
def OwnM (B : Nat) (w : World) (v : Value) (L : List Mk) : Prop := w.ownsRow B 65 33 v L.length (marksC L) ∧ ∀ p ∈ L, p.2.length = 32
theorem OwnM.nil (B : Nat) (w : World) : OwnM B w nilS [] := ⟨World.ownsRow_nil _ _ _ _, fun p hp => by cases hp⟩
theorem OwnM.marks {B : Nat} {w : World} {v : Value} {L : List Mk} (h : OwnM B w v L) : MarksAt w.heap.size w v L := RowB.of_owns (rows := L.map markC) h.1 (by simp) (fun r hr => by obtain ⟨p, hp, rfl⟩ := List.mem_map.1 hr; exact markC_len (h.2 p hp)) (Nat.le_refl _)
theorem OwnM.of {B : Nat} {w V : World} {v : Value} {L : List Mk} (h : OwnM B w v L) (hb : ∀ g c t f, B ≤ g → w.heap[g]? = some (.cells c t f) → V.heap[g]? = some (.cells c t f)) : OwnM B V v L := by
 refine ⟨?_, h.2⟩
 obtain ⟨hl, h0 | ⟨g, cap, cur, e, hg, hh, hc⟩⟩ := h.1
 · exact ⟨hl, .inl h0⟩
 · exact ⟨hl, .inr ⟨g, cap, cur, e, hg, hb g _ _ _ hg hh, hc⟩⟩
theorem OwnM.of' {B : Nat} {w V : World} {v : Value} {L : List Mk} (h : OwnM B w v L) (hb : ∀ g c f, B ≤ g → w.heap[g]? = some (.cells c 65 f) → V.heap[g]? = some (.cells c 65 f)) : OwnM B V v L := by
 refine ⟨?_, h.2⟩
 obtain ⟨hl, h0 | ⟨g, cap, cur, e, hg, hh, hc⟩⟩ := h.1
 · exact ⟨hl, .inl h0⟩
 · exact ⟨hl, .inr ⟨g, cap, cur, e, hg, hb g _ _ hg hh, hc⟩⟩
theorem OwnM.below {B : Nat} {w V : World} {v : Value} {L : List Mk} (h : OwnM B w v L) (hb : Below w.heap.size w V) : OwnM B V v L := h.of fun g c t f _ hh => (hb.block g (Array.getElem?_eq_some_iff.1 hh).1).trans hh
theorem OwnM.set {B : Nat} {w : World} {v : Value} {L : List Mk} (h : OwnM B w v L) {r : Nat} (hr : r < B) (i : Nat) (y : Value) : OwnM B (w.setCell ⟨r, i, none⟩ y) v L := h.of fun g c t f hg hh => (Below.heap_setCell w ⟨r, i, none⟩ y g (by simp; omega)).trans hh
theorem OwnM.row {B : Nat} {w : World} {v : Value} {L : List Mk} (h : OwnM B w v L) {r : Nat} (hr : r < B) (cs : Array Value) : OwnM B (w.setRow r cs) v L := h.of fun g c t f hg hh => (setRow_other w r g cs (by omega)).trans hh
theorem OwnM.less {A B : Nat} {w : World} {v : Value} {L : List Mk} (h : OwnM B w v L) (hA : A ≤ B) : OwnM A w v L := by
 refine ⟨?_, h.2⟩
 obtain ⟨hl, h0 | ⟨g, cap, cur, e, hg, hh, hc⟩⟩ := h.1
 · exact ⟨hl, .inl h0⟩
 · exact ⟨hl, .inr ⟨g, cap, cur, e, Nat.le_trans hA hg, hh, hc⟩⟩
theorem OwnM.rowMsg {B : Nat} {w : World} {v : Value} {L : List Mk} (h : OwnM B w v L) {r : Nat} {cs0 : List Value} (hr : AtL w r 42 cs0) (cs : Array Value) : OwnM B (w.setRow r cs) v L := h.of' fun g c f hg hh => by
 refine (setRow_other w r g cs ?_).trans hh
 intro e
 subst e
 have h7 : some _ = some _ := hr.symm.trans hh
 simp at h7
theorem OwnM.setMsg {B : Nat} {w : World} {v : Value} {L : List Mk} (h : OwnM B w v L) {r : Nat} {cs0 : List Value} (hr : AtL w r 42 cs0) (i : Nat) (y : Value) : OwnM B (w.setCell ⟨r, i, none⟩ y) v L := h.of' fun g c f hg hh => by
 refine (Below.heap_setCell w ⟨r, i, none⟩ y g ?_).trans hh
 intro e
 subst e
 have h7 : some _ = some _ := hr.symm.trans hh
 simp at h7
theorem OwnM.one {B : Nat} {w : World} {v : Value} {L : List Mk} (h : OwnM B w v L) : v.oneCell' = true := by
 obtain ⟨-, ⟨e, -⟩ | ⟨g, cap, cur, e, -⟩⟩ := h.1
 · rw [e]; rfl
 · rw [e]; rfl
theorem OwnM.slice {B : Nat} {w : World} {v : Value} {L : List Mk} (h : OwnM B w v L) : ∃ x N c, v = .slice x N c := by
 obtain ⟨-, ⟨e, -⟩ | ⟨g, cap, cur, e, -⟩⟩ := h.1
 · exact ⟨_, _, _, e⟩
 · exact ⟨_, _, _, e⟩
theorem OwnM.grown {B : Nat} {w V : World} {v : Value} {L : List Mk} (h : OwnM B w v L) (hg : w.grownBy V v.ownBlock) (hB : B ≤ w.heap.size) : Below B w V := by
 refine ⟨hg.os, hg.tape, hg.output, hg.size, fun k hk => ?_⟩
 obtain ⟨-, ⟨e, -⟩ | ⟨g, cap, cur, e, hb, -⟩⟩ := h.1
 · rw [e] at hg
   exact hg.block k (by omega) (by simp [Value.ownBlock])
 · rw [e] at hg
   exact hg.block k (by omega) (by simp [Value.ownBlock]; omega)
theorem wpList_append_mark {ops : Array Oper} {rest : List Oper} {o : Oper} {a : Act} {w : World} {Q : Exit → Act → World → Prop} (hgd : o.guard = none) (s x : Operand)
 (ho : o.op = .call { callee := .builtin .append, args := #[s, x], argTypes := #[38, 38] })
 (B : Nat) (v : Value) (L : List Mk) (hs : a.eval s = v) (hown : OwnM B w v L) (hL : L.length ≤ 1000) (g : Nat) (i : Int) (D : Bs) (hD : D.length = 32) (hx : a.eval x = .slice (some ⟨g, 0, none⟩) 1 1) (hA : AtL w g 65 (markC (i, D))) (hB : B ≤ w.heap.size)
 (h : ∀ v' w', OwnM B w' v' (L ++ [(i, D)]) → Below B w w' → wpList Try.prog ops Q rest (a.put o.dst v') w') : wpList Try.prog ops Q (o :: rest) a w := by
 obtain ⟨i0, hi, h0, h1, h2⟩ := info_parts info_mark
 refine wpList_append_own w hgd s x 38 ho B 65 i0 (.agg (markC zM).toArray) 33 40 Try.underlying38 hi h0 h1 h2 rfl (by decide) v L.length (marksC L) hs hown.1 ⟨g, 0, none⟩ 1 1 (markC (i, D)) hx (by rw [markC_len hD]) (fun j u hu => ?_) (mark_one (i, D)) (by unfold maxLen; omega) (by omega) hB ?_
 · have hadd : (⟨g, 0, none⟩ : Addr).add j = ⟨g, j, none⟩ := by unfold Addr.add; split <;> simp_all
   rw [hadd]
   exact hA.get hu
 · intro v' w' h3 h4 _
   refine h v' w' ⟨?_, fun p hp => ?_⟩ (hown.grown h4 hB)
   · rw [List.length_append, marksC_append]
     have : marksC [(i, D)] = markC (i, D) := by simp [marksC]
     rw [this]
     exact h3
   · rcases List.mem_append.1 hp with hp | hp
     · exact hown.2 p hp
     · rw [List.mem_singleton] at hp
       subst hp
       exact hD
end Go.Proofs.Ytpefdmkfmcjfnaa.Df

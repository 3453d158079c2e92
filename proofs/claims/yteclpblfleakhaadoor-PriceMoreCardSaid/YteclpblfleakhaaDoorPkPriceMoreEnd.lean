import Derived.Test.YteclpblfleakhaaDoorPkClose
import Derived.Test.YteclpblfleakhaaDoorPkPriceMoreMath

namespace Go.Proofs.YteclpblfleakhaaDoor.Price
open Go.RowKit Go.Sort Go.Proofs.YteclpblfleakhaaDoor.Mem Go.Proofs.YteclpblfleakhaaDoor.Order Go.Proofs.YteclpblfleakhaaDoor.Route Go.Proofs.YteclpblfleakhaaDoor.When Go.Proofs.YteclpblfleakhaaDoor.Load Go.Proofs.YteclpblfleakhaaDoor.Feas Go.Proofs.YteclpblfleakhaaDoor.Ins Go.Proofs.YteclpblfleakhaaDoor.Cheap Go.Proofs.YteclpblfleakhaaDoor.Plan
set_option linter.unusedVariables false
theorem u16_ends14 {x : Int} (h : (Lit.int .u16 x).wf = true) : 0 ≤ x ∧ x ≤ 65535 := by
 simp [Lit.wf, IntKind.min, IntKind.max, IntKind.bits, IntKind.signed] at h
 omega
def latV (v : Vh) (y : Int) : Vh := Price.later v (min (v.en + y) 1048576)
def latL (v0 v1 : Vh) (y : Int) : Nat → List Vh
 | 0 => [v0, v1]
 | 1 => [latV v0 y, v1]
 | _ => [latV v0 y, latV v1 y]
theorem lat_longer {v0 v1 : Vh} {y : Int} (hy : 0 ≤ y) (h0 : v0.en ≤ 1048576) (h1 : v1.en ≤ 1048576) : Longer [v0, v1] (latL v0 v1 y 2) := by
 refine ⟨rfl, fun i v hv => ?_⟩
 match i with
 | 0 => cases hv; exact ⟨min (v0.en + y) 1048576, by omega, by omega, rfl⟩
 | 1 => cases hv; exact ⟨min (v1.en + y) 1048576, by omega, by omega, rfl⟩
 | i + 2 => simp at hv
structure LatAt (w0 : World) (g : Nat) (vs : List Vh) (W : World) : Prop where
 at_ : ∃ cur, At W g 47 cur ∧ ∀ (j : Nat) (u : Value), (vs.map vhV).flatten[j]? = some u → cur[j]? = some u
 new : w0.heap.size ≤ g
 b : Below w0.heap.size w0 W
theorem LatAt.vhs {w0 W : World} {g c : Nat} {vs : List Vh} (h : LatAt w0 g vs W) (hc : vs.length ≤ c) (hm : c ≤ maxLen) : Vhs W.heap.size W (.slice (some ⟨g, 0, none⟩) vs.length c) vs := by
 obtain ⟨cur, hA, hcs⟩ := h.at_
 have := RowB.of_at (m := 5) (cap := c) (rows := vs.map vhV) hA hA.inside (fun r hr => by obtain ⟨s, _, rfl⟩ := List.mem_map.1 hr; rfl) hcs (by simpa using hc) hm
 simpa [Vhs] using this
theorem LatAt.cell {w0 W : World} {g : Nat} {vs : List Vh} (h : LatAt w0 g vs W) (j : Nat) (u : Value) (hj : (vs.map vhV).flatten[j]? = some u) : W.cell? ⟨g, j, none⟩ = some u := by
 obtain ⟨cur, hA, hcs⟩ := h.at_
 rw [hA.cell]
 exact hcs j u hj
theorem LatAt.free {w0 W : World} {g : Nat} {vs : List Vh} (h : LatAt w0 g vs W) (j : Nat) : W.frozen? ⟨g, j, none⟩ = false := by
 obtain ⟨cur, hA, -⟩ := h.at_
 exact hA.free j
theorem LatAt.put {w0 W : World} {g : Nat} {vs us : List Vh} (h : LatAt w0 g vs W) (j : Nat) (x : Value) (hs : (us.map vhV).flatten = (vs.map vhV).flatten.set j x) : LatAt w0 g us (W.setCell ⟨g, j, none⟩ x) := by
 obtain ⟨cur, hA, hcs⟩ := h.at_
 refine ⟨⟨_, hA.put j x, fun i u hi => ?_⟩, h.new, h.b.setCell h.new _⟩
 rw [hs] at hi
 by_cases e : j = i
 · subst e
   have hj : j < (vs.map vhV).flatten.length := by
    have h1 := (List.getElem?_eq_some_iff.1 hi).1
    simpa only [List.length_set] using h1
   rw [List.getElem?_set_self hj] at hi
   have hc := hcs j _ (List.getElem?_eq_getElem hj)
   have hs2 := (Array.getElem?_eq_some_iff.1 hc).1
   rw [Array.getElem?_setIfInBounds_self_of_lt hs2]
   exact hi
 · rw [List.getElem?_set_ne e] at hi
   rw [Array.getElem?_setIfInBounds_ne e]
   exact hcs i u hi
theorem LatAt.of {w0 W : World} {v : Value} {va vb : Vh} (h : W.ownsRow w0.heap.size 47 5 v 2 ([va, vb].map vhV).flatten) (hb : Below w0.heap.size w0 W) : ∃ g c, v = .slice (some ⟨g, 0, none⟩) 2 c ∧ 2 ≤ c ∧ c ≤ maxLen ∧ LatAt w0 g [va, vb] W := by
 obtain ⟨hl, ⟨-, h1⟩ | ⟨g, cap, cur, rfl, hg, hh, hn, hc, hsz, ht⟩⟩ := h
 · cases h1
 · refine ⟨g, cap, rfl, hn, hc, ⟨cur, hh, fun j u hj => ?_⟩, hg, hb⟩
   rw [← ht, List.getElem?_take] at hj
   split at hj
   · simpa using hj
   · cases hj
theorem plus_rws {W : World} {g : Nat} {u0 u1 : Value} {l0 l1 : List (Int × Int)} (h : At W g 48 #[u0, u1, .slice none 0 0]) (h0 : Row W.heap.size W u0 l0) (h1 : Row W.heap.size W u1 l1) : Rws W.heap.size W (.slice (some ⟨g, 0, none⟩) 3 3) [l0, l1, []] := by
 refine ⟨[u0, u1, .slice none 0 0], rfl, ?_, fun i u l hu hl => ?_⟩
 · exact RowB.of_at (m := 1) (rows := [[u0], [u1], [.slice none 0 0]]) h h.inside (fun r hr => by simp at hr; rcases hr with rfl | rfl | rfl <;> rfl) (fun i u hu => by simpa using hu) (Nat.le_refl _) (by decide)
 · match i with
   | 0 =>
    simp at hu hl
    subst hu; subst hl
    exact h0
   | 1 =>
    simp at hu hl
    subst hu; subst hl
    exact h1
   | 2 =>
    simp at hu hl
    subst hu; subst hl
    exact RowB.nil _ _ _
   | i + 3 => simp at hu
theorem fleet_news {W : World} {g : Nat} {va vb : Vh} (h : At W g 47 #[.int .i64 va.hx, .int .i64 va.hy, .int .i64 va.cp, .int .i64 va.st, .int .i64 va.en, .int .i64 vb.hx, .int .i64 vb.hy, .int .i64 vb.cp, .int .i64 vb.st, .int .i64 vb.en]) (j : Nat) (u : Value) (hj : [Value.int .i64 va.hx, .int .i64 va.hy, .int .i64 va.cp, .int .i64 va.st, .int .i64 va.en, .int .i64 vb.hx, .int .i64 vb.hy, .int .i64 vb.cp, .int .i64 vb.st, .int .i64 vb.en][j]? = some u) : W.cell? ((⟨g, 0, none⟩ : Addr).add j) = some u := by
 have h1 := h.cell j
 simp only [Addr.add] at h1 ⊢
 match j with
 | 0 => exact h1.trans (by simpa using hj)
 | k + 1 =>
  simp at h1 ⊢
  rw [h1]
  simpa using hj
theorem vh_bd {S : St} (hm : mayS S = true) {i : Nat} {v : Vh} {l : List (Int × Int)} (hv : S.vs[i]? = some v) (hl : S.rows[i]? = some l) : okF v l S.t = true ∧ (0 ≤ v.en ∧ v.en ≤ 1048576) := by
 have h1 := ((mayS_iff.1 hm).2.2 i v l hv hl).1
 obtain ⟨hd, -, -⟩ := ok_dr h1
 have hvb := hd.hv
 unfold Vh.chk at hvb
 rw [Order.veh_iff] at hvb
 obtain ⟨-, -, ⟨a, b⟩, c, d⟩ := hvb
 exact ⟨h1, by omega, d⟩
set_option maxRecDepth 100000 in
set_option maxHeartbeats 16000000 in
theorem more_walk (xb : Option Addr) (Nb cb : Nat) (bs : List Int) (a b c f : Int) (x : Int) (hx : 0 ≤ x ∧ x < 256) (y : Int) (hy : 0 ≤ y ∧ y < 65536) (w : World) (hsg : Sg3 w) (hrow : RowB w.heap.size w (.slice xb Nb cb) 1 (bs.map byV)) (hby : ∀ x ∈ bs, 0 ≤ x ∧ x < 256) (ha : 0 ≤ a ∧ a < 256) (hb : 0 ≤ b ∧ b < 256) (hf : 0 ≤ f ∧ f < 256)  :
 Calls Tryd.prog 5 #[.agg #[.slice xb Nb cb, .int .u8 a, .int .u8 b, .int .i64 c, .int .u8 f], .int .u8 x, .int .u16 y] w fun e w' => e = .returned (.bool true) ∧ Below w.heap.size w w' := by
 obtain ⟨q, hq⟩ : ∃ q, w.heap.size = q := ⟨_, rfl⟩
 obtain ⟨w0, hw0⟩ : ∃ w0, w.alloc (.cells #[.slice xb Nb cb, .int .u8 a, .int .u8 b, .int .i64 c, .int .u8 f] 26) = w0 := ⟨_, rfl⟩
 have hs0 : w0.heap.size = q + 1 := by rw [← hw0]; simp [hq]
 have hb0 : Below q w w0 := by rw [← hw0]; exact (Below.refl _ _).alloc (by omega) _
 have hd0 : At w0 q 26 #[.slice xb Nb cb, .int .u8 a, .int .u8 b, .int .i64 c, .int .u8 f] := by rw [← hw0]; exact At.new_ _ _ _ hq.symm
 have hsg0 := Lib.hid (hsg.on (by rw [hq]; exact hb0))
 rw [hq] at hrow ⊢
 have hw0' := Lib.hid hw0
 have hq' := Lib.hid hq
 have hmem := Lib.hid (And.intro hrow (And.intro hby (And.intro ha (And.intro hb hf))))
 have hWk := works_any w0 hsg0.out
 clear hw0 hq hsg hrow hby ha hb hf
 go_enter Tryd.func5, Tryd.ntmps5
 go_upto_region 1 with fail
 try simp only [hq'.out]
 try rw [hw0'.out]
 go_wp2_with fail
 refine hWk.mono ?_
 clear hWk
 rintro e w1 ⟨rfl, hb1⟩
 have hd1 := hd0.keep hb1 hd0.inside
 have hB1 := Lib.hid (hb0.trans (hb1.mono (by omega : q ≤ w0.heap.size)))
 have hsg1 := Lib.hid (hsg0.out.on hb1)
 have hs1 : q + 1 ≤ w1.heap.size := by have := hb1.size; omega
 have hPt := parts14_any xb Nb cb bs a b c f w1 ((RowB.keep hmem.out.1 hB1.out (Nat.le_refl _)).more (by omega)) hmem.out.2.1 hmem.out.2.2.1 hmem.out.2.2.2.1 hmem.out.2.2.2.2
 have c0 := hd1.cell 0
 have c1 := hd1.cell 1
 have c2 := hd1.cell 2
 have c3 := hd1.cell 3
 have c4 := hd1.cell 4
 simp at c0 c1 c2 c3 c4
 clear hd0 hb0 hb1 hsg0 hmem hs0
 go_wp2_with fail
 refine hPt.mono ?_
 clear hPt c0 c1 c2 c3 c4 hd1
 rintro e w2 ⟨⟨gf, gr, ut, u0, u1, va, vb, l0, l1, t, rfl, hPa⟩, hb2⟩
 have hpt := own_plain3 hPa.ot
 obtain ⟨xt, ct, rfl, -, -⟩ := owns_slice hPa.ot
 have hPa' := Lib.hid hPa
 have hsg2 := Lib.hid (hsg1.out.on hb2)
 have hB2 := Lib.hid (hB1.out.trans (hb2.mono (by omega)))
 have hs2 : q ≤ w2.heap.size := by have := hb2.size; omega
 have hm2 := Lib.hid hPa.mem
 have htl := hPa.tl
 rw [htl] at hpt hm2 ⊢
 obtain ⟨r, hr⟩ : ∃ r, x % 8 = r := ⟨_, rfl⟩
 obtain ⟨hx0, hx1⟩ := hx
 obtain ⟨hy0, hy1⟩ := hy
 have hrb : 0 ≤ r ∧ r < 8 := by omega
 obtain ⟨S, hS⟩ : ∃ S : St, S = ⟨[va, vb], t, [l0, l1]⟩ := ⟨_, rfl⟩
 have hvs : S.vs = [va, vb] := by rw [hS]
 have htt : S.t = t := by rw [hS]
 have hrs : S.rows = [l0, l1] := by rw [hS]
 have hlen : Hid (∀ l ∈ S.rows, l.length ≤ 100) := Lib.hid (fun l hl => by
  rw [hrs] at hl
  have := hPa.ln
  simp at hl
  rcases hl with rfl | rfl <;> omega)
 have hnum : Hid (∀ l ∈ S.rows, Nums l) := Lib.hid (fun l hl => by
  rw [hrs] at hl
  have := hPa.nm
  simp at hl
  rcases hl with rfl | rfl
  · exact this.1
  · exact this.2)
 have htl8 : Hid (S.t.length ≤ 1000) := Lib.hid (by rw [htt, htl]; decide)
 have hV2 : Hid (Vhs w2.heap.size w2 (.slice (some ⟨gf, 0, none⟩) 2 2) S.vs) := Lib.hid (by rw [hvs]; exact hm2.out.1)
 have hR2 : Hid (Rws w2.heap.size w2 (.slice (some ⟨gr, 0, none⟩) 2 2) S.rows) := Lib.hid (by rw [hrs]; exact hm2.out.2.1)
 have hT2 : Hid (Rqs w2.heap.size w2 (.slice xt 8 ct) S.t) := Lib.hid (by rw [htt]; exact hm2.out.2.2)
 have hC := Brute_any S r w2 hsg2.out.sp hV2.out hR2.out hT2.out hlen.out hnum.out htl8.out
 obtain ⟨n, hn⟩ : ∃ n, bruteN S r = n := ⟨_, rfl⟩
 have hnb := brute_bd htl8.out hnum.out r
 rw [hn] at hC hnb
 have hn' := Lib.hid hn
 have hfl := hPa.fl
 have hrt := hPa.rt
 obtain ⟨xu0, cu0, rfl, -, -⟩ := owns_slice hPa.o0
 obtain ⟨xu1, cu1, rfl, -, -⟩ := owns_slice hPa.o1
 have hr0 := Row.of_owns hPa.o0 rfl (Nat.le_refl _)
 have hr1 := Row.of_owns hPa.o1 rfl (Nat.le_refl _)
 clear hPa hb2 hB1 hsg1 hm2 hn hpt
 obtain ⟨n, hn⟩ : ∃ m, n = m := ⟨_, rfl⟩
 subst hn
 go_upto_region 5 with fail
 try rw [hr]
 clear hr
 go_wp2_with fail
 refine hC.mono ?_
 clear hC
 rintro e w3 ⟨rfl, hb3⟩
 have hB3 := Lib.hid (hB2.out.trans (hb3.mono hs2))
 have hs3 : q ≤ w3.heap.size := Nat.le_trans hs2 hb3.size
 have hV3 := Lib.hid (hV2.out.on hb3)
 have hR3 := Lib.hid (hR2.out.on hb3)
 have hT3 := Lib.hid (Rqs.on hT2.out hb3)
 have hsg3 := Lib.hid (hsg2.out.on hb3)
 have hr03 := Lib.hid (hr0.on hb3)
 have hr13 := Lib.hid (hr1.on hb3)
 have hfl3 := hfl.keep hb3 hfl.inside
 have hrt3 := hrt.keep hb3 hrt.inside
 clear hb3 hB2 hV2 hR2 hT2 hsg2 hfl hrt hs2 hr0 hr1
 obtain ⟨hn0, hn1⟩ := hnb
 by_cases hni : n = 4294967296
 · subst hni
   clear hfl3 hrt3
   go_wp2
   go_ret
   exact ⟨rfl, hB3.out⟩
 have hbn : Hid (bruteN S r ≠ 4294967296) := Lib.hid (by rw [hn'.out]; exact hni)
 have hmay : Hid (mayS S = true) := Lib.hid (by
  cases hl : leastQ (waysS S r) with
  | none => exact absurd (brute_no hl) hbn.out
  | some y => exact (waysS_parts (leastQ_mem hl)).1)
 have hb0 := vh_bd hmay.out (i := 0) (v := va) (l := l0) (by rw [hvs]; rfl) (by rw [hrs]; rfl)
 have hb1 := vh_bd hmay.out (i := 1) (v := vb) (l := l1) (by rw [hvs]; rfl) (by rw [hrs]; rfl)
 have hn2 := brute_plus (v := va) (r := r) (by rw [hvs]; simp) (ok_alone hb0.1) hbn.out
 have hn3 := brute_longer (S := S) (us := latL va vb y 2) (by rw [hvs]; exact lat_longer hy0 hb0.2.2 hb1.2.2) hbn.out
 rw [hn'.out] at hn2 hn3
 obtain ⟨⟨-, e00, e01⟩, ⟨-, e10, e11⟩⟩ := And.intro hb0 hb1
 clear hb0 hb1
 obtain ⟨iv, hiv, hv0, hv1, hv2⟩ := info_parts info_vehP
 have hfl3' := Lib.hid hfl3
 have hrt3' := Lib.hid hrt3
 obtain ⟨n2, hn2v⟩ : ∃ m, bruteN (plusV S va) r = m := ⟨_, rfl⟩
 obtain ⟨n3, hn3v⟩ : ∃ m, bruteN { S with vs := latL va vb y 2 } r = m := ⟨_, rfl⟩
 rw [hn2v] at hn2
 rw [hn3v] at hn3
 have hn2' := Lib.hid hn2v
 have hn3' := Lib.hid hn3v
 have hvs' := Lib.hid hvs
 have hrs' := Lib.hid hrs
 clear hn2v hn3v hvs hrs hS hrt3
 go_upto_region 8 with fail
 refine Sched.wp_region_sched 7 (fun W W' => Below W.heap.size W W') (VK [.of (EmptyAt w3.heap.size 47 5) (fun h hb => h.keep hb), .val (.slice (some ⟨gf, 0, none⟩) 2 2), .of (RowAt w3.heap.size 47 5 2 [.int .i64 va.hx, .int .i64 va.hy, .int .i64 va.cp, .int .i64 va.st, .int .i64 va.en, .int .i64 vb.hx, .int .i64 vb.hy, .int .i64 vb.cp, .int .i64 vb.st, .int .i64 vb.en]) (fun h hb => h.keep hb), .val (.slice (some ⟨gf, 0, none⟩) 2 2), .val (.pointer (some ⟨gf, 0, none⟩)), .val (.agg #[.int .i64 va.hx, .int .i64 va.hy, .int .i64 va.cp, .int .i64 va.st, .int .i64 va.en]), .of (fun v w => ∃ g : Nat, v = .slice (some ⟨g, 0, none⟩) 1 1 ∧ w3.heap.size ≤ g ∧ At w g 47 #[.int .i64 va.hx, .int .i64 va.hy, .int .i64 va.cp, .int .i64 va.st, .int .i64 va.en]) (fun ⟨g, e, hg, h⟩ hb => ⟨g, e, hg, h.keep hb h.inside⟩)]) (fun _ _ _ => True) (by kernel_rfl) (by kernel_rfl) (by kernel_rfl) (fun h1 h2 => belowTr h1 h2) (fun h1 h2 => VK.keep h1 h2) (Below.refl _ _).drew (fun _ => trivial) (Sched.StepsA.steps (by kernel_rfl) ?hSA) ?hQA
 case hSA =>
  simp only [List.take_succ_cons, List.take_zero]
  refine ⟨?_, ?_, ?_, ?_, ?_, ?_, ?_, trivial⟩
  · intro ys done W aa hE hn hF hD hZ hG hO
    replace hE : Below w3.heap.size w3 W := hE
    go_wp2_with fail
    first | exact ⟨_, rfl, (Below.refl _ _).alloc (Nat.le_refl _) _, VK.of rfl ⟨_, rfl, ownsEmptyQ rfl hE.size⟩, trivial⟩ | exact ⟨_, rfl, (Below.refl _ _).alloc (Nat.le_refl _) _, VK.of rfl ⟨_, rfl, ownsEmptyQ rfl hE.size⟩⟩
  · intro ys done W aa hE hn hF hD hZ hG hO
    replace hE : Below w3.heap.size w3 W := hE
    have o7 := hO 7 (by kernel_rfl)
    replace o7 : aa.tmps[7]? = some (.slice (some ⟨gf, 0, none⟩) 2 2) := o7
    go_wp2_with fail
    first | exact ⟨_, rfl, Below.refl _ _, VK.val rfl rfl, trivial⟩ | exact ⟨_, rfl, Below.refl _ _, VK.val rfl rfl⟩
  · intro ys done W aa hE hn hF hD hZ hG hO
    replace hE : Below w3.heap.size w3 W := hE
    have v0 := (hF 0 (by decide) (hD 0 (by kernel_rfl))).get rfl
    have g0 := hG 0 35 rfl (Nat.le_of_ble_eq_true rfl)
    have v1 := (hF 1 (by decide) (hD 1 (by kernel_rfl))).eq rfl
    have g1 := hG 1 36 rfl (Nat.le_of_ble_eq_true rfl)
    rw [v1] at g1
    obtain ⟨ge, hge, hoe⟩ := v0
    rw [hge] at g0 hoe
    have hAt := hfl3'.out.keep hE hfl3'.out.inside
    refine wpList_append_fresh rfl (.tmp 35) (.tmp 36) 28 rfl w3.heap.size 47 iv (.agg #[.int .i64 0, .int .i64 0, .int .i64 0, .int .i64 0, .int .i64 0]) 5 40 Tryd.underlying28 hiv hv0 hv1 hv2 rfl (by decide) ge (show aa.tmps.getD 35 undef = _ by simp [g0]) hoe (.slice (some ⟨gf, 0, none⟩) 2 2) 2 ⟨_, _, rfl⟩ (.inr ⟨_, _, _, rfl⟩) [.int .i64 va.hx, .int .i64 va.hy, .int .i64 va.cp, .int .i64 va.st, .int .i64 va.en, .int .i64 vb.hx, .int .i64 vb.hy, .int .i64 vb.cp, .int .i64 vb.st, .int .i64 vb.en] (show aa.tmps.getD 36 undef = _ by simp [g1]) rfl (fun ad c e j u hj => by cases e; exact fleet_news hAt j u hj) (by simp [Value.oneCell']) (by decide) (by decide) hE.size ?_
    intro v' W' hv' hb'
    go_wp2_with fail
    have hv2 : RowAt w3.heap.size 47 5 2 [.int .i64 va.hx, .int .i64 va.hy, .int .i64 va.cp, .int .i64 va.st, .int .i64 va.en, .int .i64 vb.hx, .int .i64 vb.hy, .int .i64 vb.cp, .int .i64 vb.st, .int .i64 vb.en] v' W' := hv'
    first | exact ⟨_, rfl, hb', VK.of rfl hv2, trivial⟩ | exact ⟨_, rfl, hb', VK.of rfl hv2⟩ | exact ⟨_, rfl, VK.of rfl hv2⟩
  · intro ys done W aa hE hn hF hD hZ hG hO
    replace hE : Below w3.heap.size w3 W := hE
    have o7 := hO 7 (by kernel_rfl)
    replace o7 : aa.tmps[7]? = some (.slice (some ⟨gf, 0, none⟩) 2 2) := o7
    go_wp2_with fail
    first | exact ⟨_, rfl, Below.refl _ _, VK.val rfl rfl, trivial⟩ | exact ⟨_, rfl, Below.refl _ _, VK.val rfl rfl⟩
  · intro ys done W aa hE hn hF hD hZ hG hO
    replace hE : Below w3.heap.size w3 W := hE
    have v3 := (hF 3 (by decide) (hD 3 (by kernel_rfl))).eq rfl
    have g3 := hG 3 38 rfl (Nat.le_of_ble_eq_true rfl)
    rw [v3] at g3
    go_wp2_with fail
    first | exact ⟨_, rfl, Below.refl _ _, VK.val rfl rfl, trivial⟩ | exact ⟨_, rfl, Below.refl _ _, VK.val rfl rfl⟩
  · intro ys done W aa hE hn hF hD hZ hG hO
    replace hE : Below w3.heap.size w3 W := hE
    have v4 := (hF 4 (by decide) (hD 4 (by kernel_rfl))).eq rfl
    have g4 := hG 4 39 rfl (Nat.le_of_ble_eq_true rfl)
    rw [v4] at g4
    have hAt := hfl3'.out.keep hE hfl3'.out.inside
    have p0 := hAt.cell 0
    have p1 := hAt.cell 1
    have p2 := hAt.cell 2
    have p3 := hAt.cell 3
    have p4 := hAt.cell 4
    simp at p0 p1 p2 p3 p4
    clear hAt
    go_wp2_with fail
    first | exact ⟨_, rfl, Below.refl _ _, VK.val rfl rfl, trivial⟩ | exact ⟨_, rfl, Below.refl _ _, VK.val rfl rfl⟩
  · intro ys done W aa hE hn hF hD hZ hG hO
    replace hE : Below w3.heap.size w3 W := hE
    have v5 := (hF 5 (by decide) (hD 5 (by kernel_rfl))).eq rfl
    have g5 := hG 5 40 rfl (Nat.le_of_ble_eq_true rfl)
    rw [v5] at g5
    go_wp2_with fail
    first | exact ⟨_, rfl, (Below.refl _ _).alloc (Nat.le_refl _) _, VK.of rfl ⟨_, rfl, hE.size, At.new _ _ _⟩, trivial⟩ | exact ⟨_, rfl, (Below.refl _ _).alloc (Nat.le_refl _) _, VK.of rfl ⟨_, rfl, hE.size, At.new _ _ _⟩⟩
 case hQA =>
  intro ys w4 hE hF _
  replace hE : Below w3.heap.size w3 w4 := hE
  have v2 := (hF 2 (by decide)).get rfl
  have v6 := (hF 6 (by decide)).get rfl
  obtain ⟨g6, e6, hg6, hA6⟩ := v6
  replace v2 : w4.ownsRow w3.heap.size 47 5 (ys 2) 2 [.int .i64 va.hx, .int .i64 va.hy, .int .i64 va.cp, .int .i64 va.st, .int .i64 va.en, .int .i64 vb.hx, .int .i64 vb.hy, .int .i64 vb.cp, .int .i64 vb.st, .int .i64 vb.en] := v2
  obtain ⟨x4, c4, e2, hc41, hc42⟩ := owns_slice v2
  rw [e2] at v2
  simp only [List.take_succ_cons, List.take_zero, List.drop_succ_cons, List.drop_zero, Sched.fill, e2, e6]
  have hsz4 := hE.size
  have hE' := Lib.hid hE
  have v2' := Lib.hid v2
  clear hF e2 e6 hE hfl3
  go_simp
  go_upto_region 9 with (at_builtin; refine wpList_append_own _ rfl _ _ 28 rfl w3.heap.size 47 iv (.agg #[.int .i64 0, .int .i64 0, .int .i64 0, .int .i64 0, .int .i64 0]) 5 40 Tryd.underlying28 hiv hv0 hv1 hv2 rfl (by decide) _ _ _ rfl v2 ⟨g6, 0, none⟩ 1 1 [.int .i64 va.hx, .int .i64 va.hy, .int .i64 va.cp, .int .i64 va.st, .int .i64 va.en] rfl rfl (World.news_of_block (cs := #[.int .i64 va.hx, .int .i64 va.hy, .int .i64 va.cp, .int .i64 va.st, .int .i64 va.en]) (t := 47) (fr := (0, 0)) hA6) (by simp [Value.oneCell']) (by decide) (by decide) hsz4 ?_; intro v9 w5 hown5 hgrow5 hnil5)
  have hb5 : Below w3.heap.size w3 w5 := hE'.out.grown hgrow5 hsz4 (fun r e => owns_row v2'.out r e)
  obtain ⟨x9, c9, rfl, -, -⟩ := owns_slice hown5
  have hV5 : Hid (Vhs w5.heap.size w5 (.slice x9 3 c9) (plusV S va).vs) := Lib.hid (by
   show Vhs w5.heap.size w5 (.slice x9 3 c9) (S.vs ++ [va])
   rw [hvs'.out]
   exact RowB.of_owns (rows := [va, vb, va].map vhV) hown5 rfl (fun r hr => by obtain ⟨s, _, rfl⟩ := List.mem_map.1 hr; rfl) (Nat.le_refl _))
  have hR5 := Lib.hid (hR3.out.on hb5)
  have hT5 := Lib.hid (Rqs.on hT3.out hb5)
  have hsg5 := Lib.hid (hsg3.out.on hb5)
  have hr05 := Lib.hid (hr03.out.on hb5)
  have hr15 := Lib.hid (hr13.out.on hb5)
  have hfl5 := Lib.hid (hfl3'.out.keep hb5 hfl3'.out.inside)
  have hrt5 := hrt3'.out.keep hb5 hrt3'.out.inside
  have hB5 := Lib.hid (hB3.out.trans (hb5.mono hs3))
  have hs5 : q ≤ w5.heap.size := Nat.le_trans hs3 hb5.size
  have hlenP : Hid (∀ l ∈ (plusV S va).rows, l.length ≤ 100) := Lib.hid (fun l hl => by
   rcases List.mem_append.1 (show l ∈ S.rows ++ [[]] from hl) with h | h
   · exact hlen.out l h
   · simp at h; rw [h]; simp)
  have hnumP : Hid (∀ l ∈ (plusV S va).rows, Nums l) := Lib.hid (fun l hl => by
   rcases List.mem_append.1 (show l ∈ S.rows ++ [[]] from hl) with h | h
   · exact hnum.out l h
   · simp at h; rw [h]; exact fun s hs => by cases hs)
  clear hgrow5 hnil5 hown5 hb5 hE' v2 v2' hA6 hV3 hR3 hT3 hsg3 hfl3' hrt3' hB3 hs3 hr03 hr13 hsz4
  refine Sched.wp_region_sched 11 (fun W W' => Below W.heap.size W W') (VK [.val (.slice x9 3 c9), .val (.slice (some ⟨gr, 0, none⟩) 2 2), .val (.pointer (some ⟨gr, 0, none⟩)), .val (.slice xu0 l0.length cu0), .val (.slice (some ⟨gr, 0, none⟩) 2 2), .val (.pointer (some ⟨gr, 1, none⟩)), .val (.slice xu1 l1.length cu1), .of (fun v w => ∃ g : Nat, v = .slice (some ⟨g, 0, none⟩) 3 3 ∧ At w g 48 #[.slice xu0 l0.length cu0, .slice xu1 l1.length cu1, .slice none 0 0]) (fun ⟨g, e, h⟩ hb => ⟨g, e, h.keep hb h.inside⟩), .val (.slice xt 8 ct), .val (.int .i64 r), .val (.int .u64 n2)]) (fun _ _ _ => True) (by kernel_rfl) (by kernel_rfl) (by kernel_rfl) (fun h1 h2 => belowTr h1 h2) (fun h1 h2 => VK.keep h1 h2) (Below.refl _ _).drew (fun _ => trivial) (Sched.StepsA.steps (by kernel_rfl) ?hSB) ?hQB
  case hSB =>
   simp only [List.take_succ_cons, List.take_zero]
   refine ⟨?_, ?_, ?_, ?_, ?_, ?_, ?_, ?_, ?_, ?_, ?_, trivial⟩
   · intro ys done W aa hE hn hF hD hZ hG hO
     replace hE : Below w5.heap.size w5 W := hE
     have o12 := hO 12 (by kernel_rfl)
     replace o12 : aa.tmps[12]? = some (.slice x9 3 c9) := o12
     go_wp2_with fail
     first | exact ⟨_, rfl, Below.refl _ _, VK.val rfl rfl, trivial⟩ | exact ⟨_, rfl, Below.refl _ _, VK.val rfl rfl⟩
   · intro ys done W aa hE hn hF hD hZ hG hO
     replace hE : Below w5.heap.size w5 W := hE
     have o8 := hO 8 (by kernel_rfl)
     replace o8 : aa.tmps[8]? = some (.slice (some ⟨gr, 0, none⟩) 2 2) := o8
     go_wp2_with fail
     first | exact ⟨_, rfl, Below.refl _ _, VK.val rfl rfl, trivial⟩ | exact ⟨_, rfl, Below.refl _ _, VK.val rfl rfl⟩
   · intro ys done W aa hE hn hF hD hZ hG hO
     replace hE : Below w5.heap.size w5 W := hE
     have v1 := (hF 1 (by decide) (hD 1 (by kernel_rfl))).eq rfl
     have g1 := hG 1 44 rfl (Nat.le_of_ble_eq_true rfl)
     rw [v1] at g1
     go_wp2_with fail
     first | exact ⟨_, rfl, Below.refl _ _, VK.val rfl rfl, trivial⟩ | exact ⟨_, rfl, Below.refl _ _, VK.val rfl rfl⟩
   · intro ys done W aa hE hn hF hD hZ hG hO
     replace hE : Below w5.heap.size w5 W := hE
     have v2 := (hF 2 (by decide) (hD 2 (by kernel_rfl))).eq rfl
     have g2 := hG 2 45 rfl (Nat.le_of_ble_eq_true rfl)
     rw [v2] at g2
     have hAt := hrt5.keep hE hrt5.inside
     have p0 := hAt.cell 0
     simp at p0
     clear hAt
     go_wp2_with fail
     first | exact ⟨_, rfl, Below.refl _ _, VK.val rfl rfl, trivial⟩ | exact ⟨_, rfl, Below.refl _ _, VK.val rfl rfl⟩
   · intro ys done W aa hE hn hF hD hZ hG hO
     replace hE : Below w5.heap.size w5 W := hE
     have o8 := hO 8 (by kernel_rfl)
     replace o8 : aa.tmps[8]? = some (.slice (some ⟨gr, 0, none⟩) 2 2) := o8
     go_wp2_with fail
     first | exact ⟨_, rfl, Below.refl _ _, VK.val rfl rfl, trivial⟩ | exact ⟨_, rfl, Below.refl _ _, VK.val rfl rfl⟩
   · intro ys done W aa hE hn hF hD hZ hG hO
     replace hE : Below w5.heap.size w5 W := hE
     have v4 := (hF 4 (by decide) (hD 4 (by kernel_rfl))).eq rfl
     have g4 := hG 4 47 rfl (Nat.le_of_ble_eq_true rfl)
     rw [v4] at g4
     go_wp2_with fail
     first | exact ⟨_, rfl, Below.refl _ _, VK.val rfl rfl, trivial⟩ | exact ⟨_, rfl, Below.refl _ _, VK.val rfl rfl⟩
   · intro ys done W aa hE hn hF hD hZ hG hO
     replace hE : Below w5.heap.size w5 W := hE
     have v5 := (hF 5 (by decide) (hD 5 (by kernel_rfl))).eq rfl
     have g5 := hG 5 48 rfl (Nat.le_of_ble_eq_true rfl)
     rw [v5] at g5
     have hAt := hrt5.keep hE hrt5.inside
     have p1 := hAt.cell 1
     simp at p1
     clear hAt
     go_wp2_with fail
     first | exact ⟨_, rfl, Below.refl _ _, VK.val rfl rfl, trivial⟩ | exact ⟨_, rfl, Below.refl _ _, VK.val rfl rfl⟩
   · intro ys done W aa hE hn hF hD hZ hG hO
     replace hE : Below w5.heap.size w5 W := hE
     have v3 := (hF 3 (by decide) (hD 3 (by kernel_rfl))).eq rfl
     have g3 := hG 3 46 rfl (Nat.le_of_ble_eq_true rfl)
     rw [v3] at g3
     have v6 := (hF 6 (by decide) (hD 6 (by kernel_rfl))).eq rfl
     have g6 := hG 6 49 rfl (Nat.le_of_ble_eq_true rfl)
     rw [v6] at g6
     go_wp2_with fail
     first | exact ⟨_, rfl, (Below.refl _ _).alloc (Nat.le_refl _) _, VK.of rfl ⟨_, rfl, At.new _ _ _⟩, trivial⟩ | exact ⟨_, rfl, (Below.refl _ _).alloc (Nat.le_refl _) _, VK.of rfl ⟨_, rfl, At.new _ _ _⟩⟩
   · intro ys done W aa hE hn hF hD hZ hG hO
     replace hE : Below w5.heap.size w5 W := hE
     have o9 := hO 9 (by kernel_rfl)
     replace o9 : aa.tmps[9]? = some (.slice xt 8 ct) := o9
     go_wp2_with fail
     first | exact ⟨_, rfl, Below.refl _ _, VK.val rfl rfl, trivial⟩ | exact ⟨_, rfl, Below.refl _ _, VK.val rfl rfl⟩
   · intro ys done W aa hE hn hF hD hZ hG hO
     replace hE : Below w5.heap.size w5 W := hE
     have o10 := hO 10 (by kernel_rfl)
     replace o10 : aa.tmps[10]? = some (.int .i64 r) := o10
     go_wp2_with fail
     first | exact ⟨_, rfl, Below.refl _ _, VK.val rfl rfl, trivial⟩ | exact ⟨_, rfl, Below.refl _ _, VK.val rfl rfl⟩
   · intro ys done W aa hE hn hF hD hZ hG hO
     replace hE : Below w5.heap.size w5 W := hE
     have v0 := (hF 0 (by decide) (hD 0 (by kernel_rfl))).eq rfl
     have g0 := hG 0 43 rfl (Nat.le_of_ble_eq_true rfl)
     rw [v0] at g0
     have v7 := (hF 7 (by decide) (hD 7 (by kernel_rfl))).get rfl
     have g7 := hG 7 50 rfl (Nat.le_of_ble_eq_true rfl)
     have v8 := (hF 8 (by decide) (hD 8 (by kernel_rfl))).eq rfl
     have g8 := hG 8 51 rfl (Nat.le_of_ble_eq_true rfl)
     rw [v8] at g8
     have v9 := (hF 9 (by decide) (hD 9 (by kernel_rfl))).eq rfl
     have g9 := hG 9 52 rfl (Nat.le_of_ble_eq_true rfl)
     rw [v9] at g9
     obtain ⟨g7b, e7, hA7⟩ := v7
     rw [e7] at g7
     have hRp := plus_rws hA7 (hr05.out.on hE) (hr15.out.on hE)
     replace hRp : Rws W.heap.size W (.slice (some ⟨g7b, 0, none⟩) 3 3) (plusV S va).rows := by
      show Rws W.heap.size W (.slice (some ⟨g7b, 0, none⟩) 3 3) (S.rows ++ [[]])
      rw [hrs'.out]
      exact hRp
     have hCb := Brute_any (plusV S va) r W (hsg5.out.sp.on hE) (hV5.out.on hE) hRp (Rqs.on hT5.out hE) hlenP.out hnumP.out htl8.out
     rw [hn2'.out] at hCb
     clear hRp hA7
     go_wp2_with fail
     refine (hCb).mono ?_
     rintro e W' ⟨rfl, hb'⟩
     replace hb' := Lib.hid hb'
     go_wp2_with fail
     first | exact ⟨_, rfl, hb'.out, VK.val rfl rfl, trivial⟩ | exact ⟨_, rfl, hb'.out, VK.val rfl rfl⟩
  case hQB =>
   intro ys w6 hE hF _
   replace hE : Below w5.heap.size w5 w6 := hE
   have v10 := (hF 10 (by decide)).eq rfl
   simp only [List.take_succ_cons, List.take_zero, List.drop_succ_cons, List.drop_zero, Sched.fill, v10]
   clear hF v10 
   go_simp
   have hR6 := Lib.hid (hR5.out.on hE)
   have hT6 := Lib.hid (Rqs.on hT5.out hE)
   have hsg6 := Lib.hid (hsg5.out.on hE)
   have hfl6 := Lib.hid (hfl5.out.keep hE hfl5.out.inside)
   have hB6 := Lib.hid (hB5.out.trans (hE.mono hs5))
   have hs6 : q ≤ w6.heap.size := Nat.le_trans hs5 hE.size
   clear hE hV5 hR5 hT5 hsg5 hr05 hr15 hfl5 hrt5 hB5 hs5
   go_upto_region 11 with (at_builtin; refine wpList_append_fresh rfl _ _ 28 rfl w6.heap.size 47 iv (.agg #[.int .i64 0, .int .i64 0, .int .i64 0, .int .i64 0, .int .i64 0]) 5 40 Tryd.underlying28 hiv hv0 hv1 hv2 rfl (by decide) w6.heap.size rfl (ownsEmptyQ rfl (Nat.le_refl _)) (.slice (some ⟨gf, 0, none⟩) 2 2) 2 ⟨_, _, rfl⟩ (.inr ⟨_, _, _, rfl⟩) [.int .i64 va.hx, .int .i64 va.hy, .int .i64 va.cp, .int .i64 va.st, .int .i64 va.en, .int .i64 vb.hx, .int .i64 vb.hy, .int .i64 vb.cp, .int .i64 vb.st, .int .i64 vb.en] rfl rfl (fun ad c e j u hj => by cases e; exact Lib.cell?_alloc_some _ (fleet_news hfl6.out j u hj)) (by simp [Value.oneCell']) (by decide) (by decide) (by simp) ?_; intro v7 w7 hv7 hb7)
   obtain ⟨g, cg, rfl, hcg, hcm, hL7⟩ := LatAt.of (va := va) (vb := vb) hv7 (((Below.refl _ w6).alloc (Nat.le_refl _) (.cells #[] 47)).trans (hb7.mono (by simp)))
   have hL7' := Lib.hid hL7
   have hcg' := Lib.hid hcg
   have hcm' := Lib.hid hcm
   clear hv7 hb7 hL7 hfl6 hcm
   go_wp2
   go_loopw [15] (fun c wr => ∃ k : Nat, k ≤ 2 ∧ c = .int .i64 k ∧ Hid (LatAt w6 g (latL va vb y k) wr))
    (fun c _ => 2 - (intOf c).toNat)
   case atStart => exact ⟨0, by omega, rfl, hL7'⟩
   case round =>
    clear hL7'
    obtain ⟨k, hk, rfl, hL⟩ := hrel
    by_cases hlt : k < 2
    case neg =>
     obtain rfl : k = 2 := by omega
     have hV8 : Vhs wr.heap.size wr (.slice (some ⟨g, 0, none⟩) 2 cg) (latL va vb y 2) := hL.out.vhs hcg'.out hcm'.out
     have hb8 := hL.out.b
     have hB8 := Lib.hid (hB6.out.trans (hb8.mono hs6))
     have hs8 : q ≤ wr.heap.size := Nat.le_trans hs6 hb8.size
     have hC := Brute_any ⟨latL va vb y 2, S.t, S.rows⟩ r wr (hsg6.out.sp.on hb8) hV8 (hR6.out.on hb8) (Rqs.on hT6.out hb8) hlen.out hnum.out htl8.out
     rw [hn3'.out] at hC
     clear hV8 hb8 hL
     go_wp2_with fail
     refine hC.mono ?_
     clear hC
     rintro e w9 ⟨rfl, hb9⟩
     have hB9 := Lib.hid (hB8.out.trans (hb9.mono hs8))
     clear hb9
     go_wp2
     go_ret
     exact ⟨rfl, hB9.out⟩
    have hkk : k = 0 ∨ k = 1 := by omega
    rcases hkk with rfl | rfl
    · have z := hL.out.cell 4 (.int .i64 va.en) rfl
      have zf := hL.out.free 4
      have zi := hL.out.cell 0 (.int .i64 va.hx) rfl
      go_wp2
      go_roundw
      case rel => exact ⟨1, by omega, by go_num, Lib.hid (hL.out.put 4 _ rfl)⟩
      case measure => simp [intOf]
    · have z := hL.out.cell 9 (.int .i64 vb.en) rfl
      have zf := hL.out.free 9
      go_wp2
      go_roundw
      case rel => exact ⟨2, by omega, by go_num, Lib.hid (hL.out.put 9 _ rfl)⟩
      case measure => simp [intOf]
end Go.Proofs.YteclpblfleakhaaDoor.Price
/-
  PriceMore, with one vehicle more, without stops, or with longer shifts, nobody bids more, returns true: for all drafts of vehicles and routes, requests, and by how much shifts are longer. Its condition: package load's variable signs, package cheap's variable none and package price's variable none are as the program's text lays them when the call begins, which the card ties to that text.
-/
namespace Go.Proofs.YteclpblfleakhaaDoor.priceMore
open Go.ChangeShapes Go.WideShapes Go.ChangeAt Go.RowKit Go.Sort
open Go.Proofs.YteclpblfleakhaaDoor.Laid Go.Proofs.YteclpblfleakhaaDoor.When Go.Proofs.YteclpblfleakhaaDoor.Plan Go.Proofs.YteclpblfleakhaaDoor.Price
set_option linter.unusedVariables false
set_option maxRecDepth 100000 in
theorem lifted (os : Os) (started : os.Started) (H : Type) (enc : TypeId × Value → H) :
 ReturnsInHanded {} Tryd.checked os 5 .any (fun w args => (Rows.priceMoreSpec.pre enc Tryd.prog Tryd.f5 [] false w args ∧ laidMetH Tryd.prog Rows.priceMoreRow.laid w) ∧ sizedMet enc Tryd.prog Tryd.f5 (OpenSpec.ofChange Rows.priceMoreSpec) false w args)
  (Rows.priceMoreSpec.post enc Tryd.prog Tryd.f5 false true false false) := by
 refine returnsInHanded_of_change_and (C := Tryd.checked) (X := fun w _ => laidMetH Tryd.prog Rows.priceMoreRow.laid w) (fun _ _ _ hh h => h.of_heap hh) own started (by kernel_rfl) Tryd.func5
  (ChangeSpec.witness_shaped (enc := enc) (C := Tryd.checked) (os := os) (X := fun w _ => laidMetH Tryd.prog Rows.priceMoreRow.laid w) false (World.doorLaid Tryd.prog 400 os) #[.agg #[.slice none 0 0, .int .u8 0, .int .u8 0, .int .i64 0, .int .u8 0], .int .u8 0, .int .u16 0] 8 rfl (World.shaped_of_RefB (by kernel_rfl) (by kernel_rfl)) (by kernel_rfl) (by kernel_rfl) (by kernel_rfl) (door_met os _)) ?_
 intro W base args ds gs before hval0 hW _ _ hL _
 have hval : ∀ (j : Nat) t v, Tryd.f5.params[j]? = some t → args[j]? = some v → Value.okWide Tryd.prog W .any base t v := hval0
 have hW' := hW
 obtain ⟨p, q, hA0, hV, rfl, hfz, hnd⟩ := hW
 have hA : DataW.TrodAll enc Tryd.prog W 0 (fun _ => true) true Tryd.f5.params.toList args.toList ds p := hA0
 rw [Tryd.params5] at hA hval
 obtain ⟨v0, vs0, d0, ds0, p0, q0, hargs, rfl, rfl, h0, r0⟩ := trodAll_cons hA
 obtain ⟨v1, vs1, d1, ds1, p1, q1, rfl, rfl, rfl, h1, r1⟩ := trodAll_cons r0
 obtain ⟨v2, vs2, d2, ds2, p2, q2, rfl, rfl, rfl, h2, r2⟩ := trodAll_cons r1
 obtain ⟨rfl, rfl, rfl⟩ := trodAll_nil r2
 obtain rfl : args = #[v0, v1, v2] := by cases args; simp_all
 obtain ⟨rfl, rfl⟩ := trodVars_none hV
 obtain ⟨xb, Nb, cb, bs, a, b, c, f, rfl, hbs, hby, ha, hb, hff⟩ := openDraft14 (hval 0 _ _ rfl rfl) h0
 obtain ⟨x, rfl, rfl, rfl, wx⟩ := open_int Tryd.underlying5 (hval 1 5 v1 rfl rfl) h1
 obtain ⟨y, rfl, rfl, rfl, wy⟩ := open_int Tryd.underlying62 (hval 2 62 v2 rfl rfl) h2
 exact (more_walk xb Nb cb bs a b c f x (by have := u8_ends wx; omega) y (by have := u16_ends14 wy; omega) W (sg_of_laid hL) hbs hby ha hb hff).mono fun e W' ⟨he, hb⟩ => ⟨_, he, Close.law_post laidOut (by kernel_rfl) rfl (by kernel_rfl) Tryd.underlying4 hW' rfl hb⟩
theorem over : Rows.PriceMoreSaid :=
 OpenClaim.holds_of_wide 5 Tryd.f5 rfl rfl rfl rfl rfl rfl rfl ⟨rfl, rfl, rfl, rfl, rfl⟩ rfl rfl rfl rfl rfl (by kernel_rfl) Tryd.func5 (by kernel_rfl)
  (of_decide_eq_true (by kernel_rfl)) (by unfold Func.isWrapper; first | (rw [if_pos (by decide +kernel)]; kernel_rfl) | (rw [if_neg (by decide +kernel)]; exact ⟨rfl, rfl⟩))
  (fun os started H enc _ => lifted os started H enc)
theorem proved : Rows.PriceMoreCardSaid :=
 Claim7.holds_tied_plain_at .later [] [.data, .data, .data] true (true, "1ca01e46e6a1680efaf2cd5a721b3d3d0c579c25cc0efc216c20249d2f05a4d0") false
  over (fun _ h => by cases h) (by kernel_rfl) (fun _ h => by cases h) priceMore_row_tie rfl ⟨rfl, rfl⟩ (by kernel_rfl) rfl
  (fun f fn hf hfn => by
   obtain rfl : f = 5 := Option.some.inj ((show Tryd.prog.funcNamed "consign/consignlaw14.PriceMore" = some 5 by kernel_rfl).symm.trans hf) |>.symm
   obtain rfl : fn = Tryd.f5 := (Option.some.inj (Tryd.func5.symm.trans hfn)).symm
   exact ⟨by kernel_rfl, fun j t ht => by
    rw [Tryd.params5] at ht
    have hm : t ∈ [26, 5, 62] := by simpa using Array.mem_of_getElem? ht
    have hall : ([26, 5, 62].all fun u => !Tryd.prog.wantsStandIn u) = true := by kernel_rfl
    exact (show Tryd.prog.wantsStandIn t = false by simpa using List.all_eq_true.1 hall t hm)⟩)
  (by kernel_rfl)
#print axioms proved
end Go.Proofs.YteclpblfleakhaaDoor.priceMore

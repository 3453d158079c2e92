import Derived.Test.YtlbghdiebjldjaaGreatDoorPkPlanDone
import Derived.Test.YtlbghdiebjldjaaGreatDoorPkClose

namespace Go.Proofs.YtlbghdiebjldjaaGreatDoor.Plan
open Go.RowKit Go.Sort Go.Proofs.YtlbghdiebjldjaaGreatDoor.Mem Go.Proofs.YtlbghdiebjldjaaGreatDoor.Route Go.Proofs.YtlbghdiebjldjaaGreatDoor.When Go.Proofs.YtlbghdiebjldjaaGreatDoor.Load Go.Proofs.YtlbghdiebjldjaaGreatDoor.Ins Go.Proofs.YtlbghdiebjldjaaGreatDoor.Feas Go.Proofs.YtlbghdiebjldjaaGreatDoor.Cheap
set_option linter.unusedVariables false
def stepO (i : Int) (st : Int × Int) : Option Int → Int × Int
 | none => st
 | some n => if st.1 < 0 ∨ n < st.2 then (i, n) else st
theorem stepO_take {i n : Int} {st : Int × Int} (h : st.1 < 0 ∨ n < st.2) : stepO i st (some n) = (i, n) := if_pos h
theorem stepO_leave {i n : Int} {st : Int × Int} (h : ¬ (st.1 < 0 ∨ n < st.2)) : stepO i st (some n) = st := if_neg h
def scanL (i : Int) (st : Int × Int) (ws : List Wy) : Int × Int := ws.foldl (fun st y => stepO i st (some y.n)) st
theorem scanL_snoc (i : Int) (st : Int × Int) (ws : List Wy) (y : Wy) : scanL i st (ws ++ [y]) = stepO i (scanL i st ws) (some y.n) := by simp [scanL]
def minO : List Wy → Option Int
 | [] => none
 | y :: ws => match minO ws with
  | none => some y.n
  | some m => some (if m < y.n then m else y.n)
theorem scan_min {i : Int} (hi : 0 ≤ i) : ∀ (ws : List Wy) (st : Int × Int), scanL i st ws = stepO i st (minO ws)
 | [], st => rfl
 | y :: ws, st => by
  have ih := scan_min hi ws (stepO i st (some y.n))
  show scanL i (stepO i st (some y.n)) ws = _
  rw [ih]
  show stepO i (stepO i st (some y.n)) (minO ws) = stepO i st (match minO ws with | none => some y.n | some m => some (if m < y.n then m else y.n))
  cases minO ws with
  | none => rfl
  | some m =>
   simp only
   by_cases h1 : st.1 < 0 ∨ y.n < st.2
   · rw [stepO_take h1]
     by_cases h2 : m < y.n
     · rw [if_pos h2, stepO_take (.inr h2), stepO_take (by rcases h1 with h1 | h1; exact .inl h1; exact .inr (by omega))]
     · rw [if_neg h2, stepO_leave (by show ¬ (i < 0 ∨ m < y.n); omega), stepO_take h1]
   · rw [stepO_leave h1]
     by_cases h2 : m < y.n
     · rw [if_pos h2]
     · rw [if_neg h2, stepO_leave h1, stepO_leave (by omega)]
theorem min_is : ∀ (ws : List Wy), (ws = [] ∧ minO ws = none) ∨ ∃ m, minO ws = some m ∧ (∃ y ∈ ws, y.n = m) ∧ ∀ y ∈ ws, m ≤ y.n
 | [] => .inl ⟨rfl, rfl⟩
 | y :: ws => by
  right
  rcases min_is ws with ⟨rfl, h⟩ | ⟨m, h1, ⟨z, hz, e⟩, h3⟩
  · exact ⟨y.n, rfl, ⟨y, by simp, rfl⟩, fun z hz => by simp at hz; rw [hz]; omega⟩
  · by_cases h2 : m < y.n
    · exact ⟨m, by simp only [minO, h1]; rw [if_pos h2], ⟨z, by simp [hz], e⟩, fun x hx => by rcases List.mem_cons.1 hx with rfl | hx; omega; exact h3 x hx⟩
    · exact ⟨y.n, by simp only [minO, h1]; rw [if_neg h2], ⟨y, by simp, rfl⟩, fun x hx => by rcases List.mem_cons.1 hx with rfl | hx; omega; have := h3 x hx; omega⟩
theorem min_some {ws : List Wy} {b : Wy} (hb : b ∈ ws) (hl : ∀ y ∈ ws, b.n ≤ y.n) : minO ws = some b.n := by
 rcases min_is ws with ⟨rfl, -⟩ | ⟨m, h1, ⟨z, hz, e⟩, h3⟩
 · cases hb
 · have h4 := h3 b hb
   have h5 := hl z hz
   rw [h1]
   congr 1
   omega
theorem best_min {S : St} (h : Ok S) {r : Int} {i : Nat} {v : Vh} {l : List (Int × Int)} (hv : S.vs[i]? = some v) (hl : S.rows[i]? = some l) : bestF S r i = minO (waysP v l S.t r (pairsL l.length)) := by
 obtain ⟨hd, he, -, -⟩ := h.dr i v l hv hl
 rw [bestF_at hv hl]
 by_cases hb : bestE v l S.t r = 0
 · rw [if_pos hb]
   obtain ⟨p, q, e, h1, h2⟩ := best_least hb
   rw [min_some (b := bestW v l S.t r) (by rw [e]; simp) (fun y hy => by
    rw [e] at hy
    rcases List.mem_append.1 hy with hy | hy
    · have := h1 y hy; omega
    · rcases List.mem_cons.1 hy with rfl | hy
      · omega
      · exact h2 y hy)]
 · rw [if_neg hb]
   have hnil : waysP v l S.t r (pairsL l.length) = [] := by
    apply Classical.byContradiction
    intro hn
    obtain ⟨y, hy⟩ := List.exists_mem_of_ne_nil _ hn
    have hz := withE_zero (riseE_zero (waysP_mem hy).2.1).1
    have hin := hz.1
    have h2 := hin
    simp only [Bool.and_eq_true] at h2
    have hi := inT_iff.1 h2.1
    have hq : reqC S.t r = 0 := by
     obtain ⟨R, rfl⟩ : ∃ R : Nat, r = R := ⟨r.toNat, by omega⟩
     have hlt : R < S.t.length := by omega
     rw [reqC_at (List.getElem?_eq_getElem hlt)]
     exact hd.ht _ (List.getElem_mem hlt)
    have hh : headE v l S.t r = 0 := by rw [head_right hd he, rightE_ok hin hq hd.hv he (by have := hz.2.2.1; omega)]
    refine hb (bestE_ok hh ?_)
    unfold eachL
    rw [if_pos hh]
    exact hn
   rw [hnil]
   rfl
theorem acc_step (f : Nat → Option Int) (k : Nat) : accP f (k + 1) = stepO k (accP f k) (f k) := by
 cases hf : f k with
 | none => rw [acc_skip hf]; rfl
 | some n =>
  by_cases h : (accP f k).1 < 0 ∨ n < (accP f k).2
  · rw [acc_take hf h, stepO_take h]
  · rw [acc_leave hf h, stepO_leave h]
set_option maxRecDepth 100000 in
set_option maxHeartbeats 16000000 in
theorem least_walk (xb : Option Addr) (Nb cb : Nat) (bs : List Int) (a b c f : Int) (ua : Value) (acts : List (Int × Int)) (x : Int) (hx : 0 ≤ x ∧ x < 256) (w : World) (hsg : Sg w) (hrow : RowB w.heap.size w (.slice xb Nb cb) 1 (bs.map byV)) (hby : ∀ x ∈ bs, 0 ≤ x ∧ x < 256) (ha : 0 ≤ a ∧ a < 256) (hb : 0 ≤ b ∧ b < 256) (hf : 0 ≤ f ∧ f < 256)
 (hacts : Acts w.heap.size w ua acts) (hac : ∀ x ∈ acts, (0 ≤ x.1 ∧ x.1 < 256) ∧ 0 ≤ x.2 ∧ x.2 < 256) :
 Calls Tryz.prog 6 #[.agg #[.slice xb Nb cb, .int .u8 a, .int .u8 b, .int .i64 c, .int .u8 f], ua, .int .u8 x] w fun e w' => e = .returned (.bool true) ∧ Below w.heap.size w w' := by
 obtain ⟨q, hq⟩ : ∃ q, w.heap.size = q := ⟨_, rfl⟩
 have hg0 := hsg.pos
 rw [hq] at hg0
 obtain ⟨w0, hw0⟩ : ∃ w0, w.alloc (.cells #[.slice xb Nb cb, .int .u8 a, .int .u8 b, .int .i64 c, .int .u8 f] 26) = w0 := ⟨_, rfl⟩
 have hs0 : w0.heap.size = q + 1 := by rw [← hw0]; simp [hq]
 have hb0 : Below q w w0 := by rw [← hw0]; exact (Below.refl _ _).alloc (by omega) _
 have hd0 : At w0 q 26 #[.slice xb Nb cb, .int .u8 a, .int .u8 b, .int .i64 c, .int .u8 f] := by rw [← hw0]; exact At.new_ _ _ _ hq.symm
 have hsg0 := Lib.hid (hsg.on (by rw [hq]; exact hb0))
 obtain ⟨xa, Na, ca, rfl, -⟩ := hacts.opened
 have hw0' := Lib.hid hw0
 have hq' := Lib.hid hq
 have hmem := Lib.hid (And.intro hrow (And.intro hby (And.intro ha (And.intro hb (And.intro hf (And.intro hacts hac))))))
 have hWk := works_any w0 hsg0.out
 clear hw0 hq hsg hrow hby ha hb hf hacts hac
 go_enter Tryz.func6, Tryz.ntmps6
 go_upto_region 1 with fail
 try simp only [hq'.out]
 try rw [hw0'.out]
 go_wp2_with fail
 refine hWk.mono ?_
 clear hWk
 rintro e w1 ⟨rfl, hb1⟩
 have hd1 := hd0.keep hb1 hd0.inside
 have hB1 := Lib.hid (hb0.trans (hb1.mono (by omega : q ≤ w0.heap.size)))
 have hsg1 := Lib.hid (hsg0.out.on hb1)
 have hs1 : q + 1 ≤ w1.heap.size := by have := hb1.size; omega
 have hDn := done_any xb Nb cb bs a b c f (.slice xa Na ca) acts w1 hsg1.out ((RowB.keep hmem.out.1 hB1.out (by rw [hq'.out]; exact Nat.le_refl _)).more (by have := hq'.out; omega)) hmem.out.2.1 hmem.out.2.2.1 hmem.out.2.2.2.1 hmem.out.2.2.2.2.1 ((RowB.keep hmem.out.2.2.2.2.2.1 hB1.out (by rw [hq'.out]; exact Nat.le_refl _)).more (by have := hq'.out; omega)) hmem.out.2.2.2.2.2.2
 have c0 := hd1.cell 0
 have c1 := hd1.cell 1
 have c2 := hd1.cell 2
 have c3 := hd1.cell 3
 have c4 := hd1.cell 4
 simp at c0 c1 c2 c3 c4
 clear hd0 hb0 hb1 hsg0 hmem hs0
 go_wp2_with fail
 refine hDn.mono ?_
 clear hDn c0 c1 c2 c3 c4 hd1
 rintro e w2 ⟨p, uf, ut, rfl, S, hD⟩
 obtain ⟨m, hm⟩ : ∃ m, w1.heap.size = m := ⟨_, rfl⟩
 rw [hm] at hD hs1
 obtain ⟨⟨D, G, hA, hGq⟩, hok, hsg2⟩ := hD.plan
 obtain ⟨hb2, hs2⟩ := hD.below
 obtain ⟨xf, Nf, cf, rfl, hNf0, -⟩ := Vhs.opened hD.mem.1
 obtain ⟨xt, Nt, ct, rfl, hNt0, -⟩ := Rqs.opened hD.mem.2
 have hNt := Lib.hid hNt0
 have hNt9 : Nt ≤ 1000 := by rw [← hNt0]; exact hok.tl
 have hA2 := Lib.hid hA
 have ho := Lib.hid hok
 have hsg2' := Lib.hid hsg2
 have hGm := Lib.hid hGq
 have hgm : Hid (1 < m ∧ 0 < m) := Lib.hid (by omega)
 have hB2 := Lib.hid (hB1.out.trans (hb2.mono (by omega : q ≤ m)))
 have hqs : q ≤ w2.heap.size := by omega
 have hVm := Lib.hid hD.mem.1
 have hTm := Lib.hid hD.mem.2
 have hNf := Lib.hid hNf0
 clear hNf0 hm hD hA hGq hok hsg2 hb2 hNt0 hB1 hsg1 hg0
 obtain ⟨r, hr⟩ : ∃ r, x % 12 - 1 = r := ⟨_, rfl⟩
 obtain ⟨hx0, hx1⟩ := hx
 have hrb : -1 ≤ r ∧ r ≤ 10 := by omega
 have hrI : I64 r := ⟨by omega, by omega⟩
 have hrI' := Lib.hid hrI
 have hr' := Lib.hid hr
 clear hrI
 obtain ⟨E, hE0⟩ : ∃ E, priceE S r = E := ⟨_, rfl⟩
 obtain ⟨I, hI0⟩ : ∃ I, priceI S r = I := ⟨_, rfl⟩
 obtain ⟨n, hn0⟩ : ∃ n, priceN S r = n := ⟨_, rfl⟩
 have hEE := Lib.hid hE0
 have hII := Lib.hid hI0
 have hnn := Lib.hid hn0
 have hPr := Price_any r w2 hA2.out ho.out hsg2'.out
 rw [hE0, hI0, hn0] at hPr
 have hin := Lib.hid (inT_iff (t := S.t) (r := r))
 rw [hNt.out] at hin
 clear hE0 hI0 hn0
 go_upto_region 7 with fail
 try rw [hr'.out]
 clear hr
 go_wp2_with fail
 refine hPr.mono ?_
 clear hPr
 rintro e w3 ⟨rfl, hb3⟩
 have hA3 := Lib.hid (hA2.out.on hb3)
 have hsg3 := Lib.hid (hsg2'.out.on hb3)
 have hV3 := Lib.hid (hVm.out.on hb3)
 have hT3 := Lib.hid (Rqs.on hTm.out hb3)
 have hB3 := Lib.hid (hB2.out.trans (hb3.mono hqs))
 have hs3 : q ≤ w3.heap.size := Nat.le_trans hqs hb3.size
 clear hb3 hA2 hsg2' hVm hTm hB2
 by_cases h1 : r < 0
 · have he := Lib.hid (priceE_stop (S := S) (r := r) (by cases hb : inT S.t r; rfl; have := hin.out.1 hb; omega))
   obtain rfl : E = 8 := by rw [← hEE.out]; exact he.out
   go_wp2
   go_ret
   exact ⟨rfl, by rw [hq'.out]; exact hB3.out⟩
 by_cases h2 : (Nt : Int) ≤ r
 · have he := Lib.hid (priceE_stop (S := S) (r := r) (by cases hb : inT S.t r; rfl; have := hin.out.1 hb; omega))
   obtain rfl : E = 8 := by rw [← hEE.out]; exact he.out
   go_wp2
   go_ret
   exact ⟨rfl, by rw [hq'.out]; exact hB3.out⟩
 have hinT : Hid (inT S.t r = true) := Lib.hid (hin.out.2 ⟨by omega, by omega⟩)
 have hHas := Has_any r w3 hA3.out ho.out hrI'.out
 obtain ⟨V, hV⟩ : ∃ V, whereV S.rows r = V := ⟨_, rfl⟩
 rw [hV] at hHas
 have hV' := Lib.hid hV
 clear hV hin
 by_cases h3 : 0 ≤ V
 · have he := Lib.hid (priceE_twice (S := S) (r := r) hinT.out (by rw [hV'.out]; exact h3))
   obtain rfl : E = 13 := by rw [← hEE.out]; exact he.out
   rw [show decide (0 ≤ V) = true by simp [h3]] at hHas
   go_wp2_with fail
   refine hHas.mono ?_
   clear hHas
   rintro e w4 ⟨rfl, hb4⟩
   have hf4 := Lib.hid (hB3.out.trans (hb4.mono hs3))
   clear hb4
   go_wp2
   go_ret
   exact ⟨rfl, by rw [hq'.out]; exact hf4.out⟩
 have hwn : Hid (whereV S.rows r < 0) := Lib.hid (by rw [hV'.out]; omega)
 rw [show decide (0 ≤ V) = false by simp; omega] at hHas
 go_wp2_with fail
 refine hHas.mono ?_
 clear hHas
 rintro e w4 ⟨rfl, hb4⟩
 have hsg4 := Lib.hid (hsg3.out.on hb4)
 have hV4 := Lib.hid (hV3.out.on hb4)
 have hT4 := Lib.hid (Rqs.on hT3.out hb4)
 have hB4 := Lib.hid (hB3.out.trans (hb4.mono hs3))
 have hs4 : q ≤ w4.heap.size := Nat.le_trans hs3 hb4.size
 have hRt := Routes_any w4 (hA3.out.on hb4) ho.out
 clear hb4 hA3 hsg3 hV3 hT3 hB3 h3
 go_wp2_with fail
 refine hRt.mono ?_
 clear hRt
 rintro e w5 ⟨⟨u5, rfl, us5, hR⟩, hb5⟩
 obtain ⟨x5, c5, rfl, -, -⟩ := owns_slice hR.1
 have hN0 := ho.out.len
 rw [hNf.out] at hN0
 have hN := Lib.hid hN0
 have hR5 : Hid (Rws w5.heap.size w5 (.slice x5 Nf c5) S.rows) := Lib.hid (by have := hR.rws; rw [hN0] at this; exact this)
 rw [hN0]
 have hsg5 := Lib.hid (hsg4.out.on hb5)
 have hV5 := Lib.hid (hV4.out.on hb5)
 have hT5 := Lib.hid (Rqs.on hT4.out hb5)
 have hB5 := Lib.hid (hB4.out.trans (hb5.mono hs4))
 have hs5 : q ≤ w5.heap.size := Nat.le_trans hs4 hb5.size
 have hNf4 : Nf ≤ 4 := by rw [← hNf.out]; exact ho.out.cnt.2
 clear hR hb5 hN0 hsg4 hV4 hT4 hB4
 go_wp2
 go_loopw [15, 16, 17] (fun a n i wr => ∃ k : Nat, k ≤ Nf ∧ i = .int .i64 k ∧ a = .int .i64 (accP (bestF S r) k).1 ∧ n = .int .i64 (accP (bestF S r) k).2 ∧ Below w5.heap.size w5 wr)
  (fun _ _ i _ => Nf - (intOf i).toNat)
 case atStart => exact ⟨0, Nat.zero_le _, rfl, rfl, rfl, Below.refl _ _⟩
 case round =>
  obtain ⟨k, hk, rfl, rfl, rfl, hbw⟩ := hrel
  obtain ⟨st, hst⟩ : ∃ st, accP (bestF S r) k = st := ⟨_, rfl⟩
  have hst' := Lib.hid hst
  rw [hst]
  clear hst
  by_cases hlt : k < Nf
  case neg =>
   obtain rfl : k = Nf := by omega
   have hB6 := Lib.hid (hB5.out.trans (hbw.mono hs5))
   obtain ⟨A1, A2⟩ := st
   have hfin : Hid ((A1 < 0 → I = 0 ∧ n = 0 ∧ E = 12) ∧ (¬ A1 < 0 → I = A1 ∧ n = A2 ∧ E = 0)) := Lib.hid (by
    have h9 := hst'.out
    rw [← hNf.out] at h9
    constructor
    · intro hA
      have he := priceE_none (S := S) (r := r) hinT.out hwn.out (by rw [h9]; exact hA)
      have hz := price_no (S := S) (r := r) (by rw [he]; omega)
      exact ⟨hII.out.symm.trans hz.1, hnn.out.symm.trans hz.2, hEE.out.symm.trans he⟩
    · intro hA
      have he := priceE_ok (S := S) (r := r) hinT.out hwn.out (by rw [h9]; exact hA)
      have hz := price_yes he
      rw [h9] at hz
      exact ⟨hII.out.symm.trans hz.1, hnn.out.symm.trans hz.2, hEE.out.symm.trans he⟩)
   clear hbw
   by_cases hA : A1 < 0
   · obtain ⟨rfl, rfl, rfl⟩ := hfin.out.1 hA
     go_wp2
     go_ret
     exact ⟨rfl, by rw [hq'.out]; exact hB6.out⟩
   · obtain ⟨rfl, rfl, rfl⟩ := hfin.out.2 hA
     go_wp2
     go_ret
     exact ⟨rfl, by rw [hq'.out]; exact hB6.out⟩
  obtain ⟨v, hv⟩ : ∃ v, S.vs[k]? = some v := ⟨S.vs[k]'(by rw [hNf.out]; exact hlt), List.getElem?_eq_getElem _⟩
  obtain ⟨l, hl⟩ : ∃ l, S.rows[k]? = some l := ⟨S.rows[k]'(by rw [hN.out]; exact hlt), List.getElem?_eq_getElem _⟩
  obtain ⟨hd, -, -, hnum⟩ := ho.out.dr k v l hv hl
  have hl16 : l.length ≤ 16 := hd.hn
  obtain ⟨L, hL⟩ : ∃ L, l.length = L := ⟨_, rfl⟩
  have hL' := Lib.hid hL
  rw [hL] at hl16
  obtain ⟨xs, hxs⟩ : ∃ xs, pairsL l.length = xs := ⟨_, rfl⟩
  have hxs' : Hid (xs = fromL L 0) := Lib.hid (by rw [← hxs, hL, pairsL_in (by omega)])
  have hacc : Hid (accP (bestF S r) (k + 1) = scanL k st (waysP v l S.t r xs)) := Lib.hid (by rw [acc_step, hst'.out, best_min ho.out hv hl, ← hxs, scan_min (by omega)])
  have hkF : (k : Int) < (Nf : Int) := by omega
  have hkN := Lib.hid hlt
  have hv' := Lib.hid hv
  have hl' := Lib.hid hl
  have hnum' := Lib.hid hnum
  have hrow : Hid (∀ W, Below w5.heap.size w5 W → ∃ (gr orr gv ov : Nat) (u : Value), x5 = some ⟨gr, orr, none⟩ ∧ gr < w5.heap.size ∧ W.cell? ⟨gr, orr + k, none⟩ = some u ∧ Row W.heap.size W u l ∧ xf = some ⟨gv, ov, none⟩ ∧ gv < W.heap.size ∧ (W.cell? ⟨gv, ov + k * 5, none⟩ = some (.int .i64 v.hx) ∧ W.cell? ⟨gv, ov + k * 5 + 1, none⟩ = some (.int .i64 v.hy) ∧ W.cell? ⟨gv, ov + k * 5 + 2, none⟩ = some (.int .i64 v.cp) ∧ W.cell? ⟨gv, ov + k * 5 + 3, none⟩ = some (.int .i64 v.st) ∧ W.cell? ⟨gv, ov + k * 5 + 4, none⟩ = some (.int .i64 v.en))) := Lib.hid (fun W hW => by
   obtain ⟨gr, orr, u, e, hg, hc, hu⟩ := Rws.at hR5.out hl'.out
   obtain ⟨gv, ov, e2, hg2, hcs⟩ := Vhs.at (hV5.out.on hW) hv'.out
   exact ⟨gr, orr, gv, ov, u, e, hg, (hW.cell (p := ⟨gr, orr + k, none⟩) hg).trans hc, hu.on hW, e2, hg2, hcs⟩)
  obtain ⟨ur, hur⟩ : ∃ ur, ∀ W, Below w5.heap.size w5 W → ∃ gr orr, x5 = some ⟨gr, orr, none⟩ ∧ gr < w5.heap.size ∧ W.cell? ⟨gr, orr + k, none⟩ = some ur ∧ Row W.heap.size W ur l := by
   obtain ⟨gr, orr, u, e, hg, hc, hu⟩ := Rws.at hR5.out hl'.out
   exact ⟨u, fun W hW => ⟨gr, orr, e, hg, (hW.cell (p := ⟨gr, orr + k, none⟩) hg).trans hc, hu.on hW⟩⟩
  have hur' := Lib.hid hur
  obtain ⟨gr, orr, rfl, hgr, -, hur0⟩ := hur w5 (Below.refl _ _)
  obtain ⟨xu, Nu, cu, rfl, hNu, -⟩ := hur0.opened
  obtain rfl : Nu = L := by have := hNu.out; omega
  have hcell : Hid (∀ W, Below w5.heap.size w5 W → W.cell? ⟨gr, orr + k, none⟩ = some (.slice xu Nu cu) ∧ Row W.heap.size W (.slice xu Nu cu) l ∧ gr < W.heap.size) := Lib.hid (fun W hW => by
   obtain ⟨g2, o2, e, -, hc, hu⟩ := hur'.out W hW
   cases e
   exact ⟨hc, hu, Nat.lt_of_lt_of_le hgr hW.size⟩)
  clear hv hl hd hnum hL hxs hlt hrow hur hur0 hur' hNu
  have hbw0 := Lib.hid hbw
  clear hbw
  obtain ⟨wo, hwo⟩ : ∃ wo, wo = wr := ⟨_, rfl⟩
  subst hwo
  go_wp2
  go_loopw [15, 16, 18] (fun a n i wr => ∃ (pre : List (Int × Int)) (m : Nat), i = .int .i64 m ∧ m ≤ Nu + 1 ∧ Hid (xs = pre ++ fromL Nu m) ∧ a = .int .i64 (scanL k st (waysP v l S.t r pre)).1 ∧ n = .int .i64 (scanL k st (waysP v l S.t r pre)).2 ∧ Below w5.heap.size w5 wr)
   (fun _ _ i _ => Nu + 1 - (intOf i).toNat)
  case atStart => exact ⟨[], 0, rfl, Nat.zero_le _, hxs', rfl, rfl, hbw0.out⟩
  case round =>
   clear hbw0
   obtain ⟨pre, m, rfl, hm, hx, rfl, rfl, hbw⟩ := hrel
   obtain ⟨z0, hrw, z1⟩ := hcell.out wr hbw
   obtain ⟨s1, hs1⟩ : ∃ s, scanL k st (waysP v l S.t r pre) = s := ⟨_, rfl⟩
   have hs1' := Lib.hid hs1
   rw [hs1]
   clear hs1 hrw
   by_cases hlm : m ≤ Nu
   case neg =>
    obtain rfl : m = Nu + 1 := by omega
    have hn1 : ¬ ((Nu : Int) + 1 ≤ (Nu : Int)) := by omega
    have hpre : Hid (accP (bestF S r) (k + 1) = s1) := Lib.hid (by
     have h9 := hx.out
     rw [fromL_nil (by omega), List.append_nil] at h9
     rw [hacc.out, h9, hs1'.out])
    have hb' := Lib.hid hbw
    clear hbw
    go_wp2
    go_roundw
    case rel => exact ⟨k + 1, hkN.out, by go_num, by rw [hpre.out], by rw [hpre.out], hb'.out⟩
    case measure => have := hkN.out; simp [intOf]; omega
   have hx2 : Hid (xs = pre ++ (rowL Nu m m ++ fromL Nu (m + 1))) := Lib.hid (by rw [hx.out, fromL_cons hlm])
   have hmi : (m : Int) ≤ (Nu : Int) := by omega
   have hmN := Lib.hid hlm
   have hb0 := Lib.hid hbw
   clear hx hbw hlm
   obtain ⟨wp, hwp⟩ : ∃ wp, wp = wr := ⟨_, rfl⟩
   subst hwp
   go_wp2
   go_loopw [15, 16, 19] (fun a n i wr => ∃ (pre : List (Int × Int)) (j : Nat), i = .int .i64 j ∧ m ≤ j ∧ j ≤ Nu + 1 ∧ Hid (xs = pre ++ (rowL Nu m j ++ fromL Nu (m + 1))) ∧ a = .int .i64 (scanL k st (waysP v l S.t r pre)).1 ∧ n = .int .i64 (scanL k st (waysP v l S.t r pre)).2 ∧ Below w5.heap.size w5 wr)
    (fun _ _ i _ => Nu + 1 - (intOf i).toNat)
   case atStart => exact ⟨pre, m, rfl, Nat.le_refl _, by have := hmN.out; omega, hx2, by rw [hs1'.out], by rw [hs1'.out], hb0.out⟩
   case round =>
    clear hx2 hb0 hs1' z0 z1
    obtain ⟨pre, j, rfl, hmj, hj, hx, rfl, rfl, hbw⟩ := hrel
    obtain ⟨z0, hrw, z1⟩ := hcell.out wr hbw
    obtain ⟨s1, hs1⟩ : ∃ s, scanL k st (waysP v l S.t r pre) = s := ⟨_, rfl⟩
    have hs1' := Lib.hid hs1
    rw [hs1]
    clear hs1
    by_cases hlj : j ≤ Nu
    case neg =>
     obtain rfl : j = Nu + 1 := by omega
     have hn1 : ¬ ((Nu : Int) + 1 ≤ (Nu : Int)) := by omega
     have hpre : Hid (xs = pre ++ fromL Nu (m + 1)) := Lib.hid (by rw [hx.out, rowL_nil (by omega)]; rfl)
     have hb' := Lib.hid hbw
     clear hbw hrw hx
     go_wp2
     go_roundw
     case rel => exact ⟨pre, m + 1, by go_num, by have := hmN.out; omega, hpre, by rw [hs1'.out], by rw [hs1'.out], hb'.out⟩
     case measure => have := hmN.out; simp [intOf]; omega
    have hx2 : Hid (xs = (pre ++ [((m : Int), (j : Int))]) ++ (rowL Nu m (j + 1) ++ fromL Nu (m + 1))) := Lib.hid (by rw [hx.out, rowL_cons hlj, List.append_assoc]; rfl)
    have hji : (j : Int) ≤ (Nu : Int) := by omega
    have hjN := Lib.hid hlj
    have hmj' := Lib.hid hmj
    have hsn := Lib.hid (waysP_snoc v l S.t r pre ((m : Int), (j : Int)))
    obtain ⟨gv, ov, rfl, hgv, q0, q1, q2, q3, q4⟩ := Vhs.at (hV5.out.on hbw) hv'.out
    have hT6 := Rqs.on hT5.out hbw
    have hsg6 := hsg5.out.on hbw
    have hC := fun d os => Calls.regrown_of (Rise_any v _ _ l S.t (by have := hL'.out; omega) hnum'.out r m j (grow (redrawn wr d) os) (hsg6.on (below_regrown wr d os)) (hrw.on (below_regrown wr d os)) (Rqs.on hT6 (below_regrown wr d os)))
    obtain ⟨E1, hE1⟩ : ∃ E1, riseE v l S.t r m j = E1 := ⟨_, rfl⟩
    obtain ⟨n1, hn1⟩ : ∃ n1, riseV v l S.t r m j = n1 := ⟨_, rfl⟩
    rw [hE1, hn1] at hC
    have hE1' := Lib.hid hE1
    have hn1' := Lib.hid hn1
    have r0 := cell_regrown q0
    have r1 := cell_regrown q1
    have r2 := cell_regrown q2
    have r3 := cell_regrown q3
    have r4 := cell_regrown q4
    have r5 := cell_regrown z0
    have hb0 := Lib.hid hbw
    have hsz := hbw.size
    obtain ⟨A1, A2⟩ := s1
    clear hx hbw hlj hrw hT6 hsg6 hE1 hn1 hmj
    go_upto_region 23 with fail
    clear q0 q1 q2 q3 q4 z0
    refine wp_region_quiet_below (by kernel_rfl) (by kernel_rfl) ?_
    repeat (go_big_quiet_step (with_reducible exact hC _ _))
    refine wpQuiet_nil ?_
    intro _ hw'
    obtain ⟨⟨dr, osr⟩, hw''⟩ := hw'
    subst hw''
    have hB7 := Lib.hid (hb0.out.trans ((below_regrown wr dr osr).mono hsz))
    clear hC r0 r1 r2 r3 r4 r5 hb0
    cases hE0 : (E1 == 0)
    · have he : Hid (scanL k st (waysP v l S.t r (pre ++ [((m : Int), (j : Int))])) = (A1, A2)) := Lib.hid (by
       rw [hsn.out, wayI_no (by show riseE v l S.t r m j ≠ 0; rw [hE1'.out]; simpa using hE0)]
       show scanL k st (waysP v l S.t r pre ++ []) = _
       rw [List.append_nil, hs1'.out])
      go_wp2
      go_roundw
      case rel => exact ⟨pre ++ [((m : Int), (j : Int))], j + 1, by go_num, by have := hmj'.out; omega, by have := hjN.out; omega, hx2, by rw [he.out], by rw [he.out], hB7.out⟩
      case measure => have := hjN.out; simp [intOf]; omega
    obtain rfl : E1 = 0 := by simpa using hE0
    have hsc : Hid (scanL k st (waysP v l S.t r (pre ++ [((m : Int), (j : Int))])) = stepO k (A1, A2) (some n1)) := Lib.hid (by
     rw [hsn.out, wayI_yes (by show riseE v l S.t r m j = 0; exact hE1'.out)]
     show scanL k st (waysP v l S.t r pre ++ [_]) = _
     rw [scanL_snoc, hs1'.out]
     show stepO k (A1, A2) (some (riseV v l S.t r m j)) = _
     rw [hn1'.out])
    by_cases hA : A1 < 0
    · have he := Lib.hid (hsc.out.trans (stepO_take (.inl hA)))
      go_wp2
      go_roundw
      case rel => exact ⟨pre ++ [((m : Int), (j : Int))], j + 1, by go_num, by have := hmj'.out; omega, by have := hjN.out; omega, hx2, by rw [he.out], by rw [he.out], hB7.out⟩
      case measure => have := hjN.out; simp [intOf]; omega
    by_cases hB : n1 < A2
    · have he := Lib.hid (hsc.out.trans (stepO_take (.inr hB)))
      go_wp2
      go_roundw
      case rel => exact ⟨pre ++ [((m : Int), (j : Int))], j + 1, by go_num, by have := hmj'.out; omega, by have := hjN.out; omega, hx2, by rw [he.out], by rw [he.out], hB7.out⟩
      case measure => have := hjN.out; simp [intOf]; omega
    · have he := Lib.hid (hsc.out.trans (stepO_leave (by show ¬ (A1 < 0 ∨ n1 < A2); omega)))
      go_wp2
      go_roundw
      case rel => exact ⟨pre ++ [((m : Int), (j : Int))], j + 1, by go_num, by have := hmj'.out; omega, by have := hjN.out; omega, hx2, by rw [he.out], by rw [he.out], hB7.out⟩
      case measure => have := hjN.out; simp [intOf]; omega
end Go.Proofs.YtlbghdiebjldjaaGreatDoor.Plan
/-
  PlanLeast, the price of a request is the least rise over all vehicles, and all pairs of places, that there is, the first vehicle that has it is told, and where there is none, none is feasible, returns true: for all drafts, acts (thirty at most), and which request. Its condition: package load's variable signs and package cheap's variable none are as the program's text lays them when the call begins, which the card ties to that text.
-/
namespace Go.Proofs.YtlbghdiebjldjaaGreatDoor.planLeast
open Go.ChangeShapes Go.WideShapes Go.ChangeAt Go.RowKit Go.Sort
open Go.Proofs.YtlbghdiebjldjaaGreatDoor.Laid Go.Proofs.YtlbghdiebjldjaaGreatDoor.When Go.Proofs.YtlbghdiebjldjaaGreatDoor.Plan
set_option linter.unusedVariables false
set_option maxRecDepth 100000 in
theorem lifted (os : Os) (started : os.Started) (H : Type) (enc : TypeId × Value → H) :
 ReturnsInHanded {} Tryz.checked os 6 .any (fun w args => (Rows.planLeastSpec.pre enc Tryz.prog Tryz.f6 [] false w args ∧ laidMetH Tryz.prog Rows.planLeastRow.laid w) ∧ sizedMet enc Tryz.prog Tryz.f6 (OpenSpec.ofChange Rows.planLeastSpec) false w args)
  (Rows.planLeastSpec.post enc Tryz.prog Tryz.f6 false true false false) := by
 refine returnsInHanded_of_change_and (C := Tryz.checked) (X := fun w _ => laidMetH Tryz.prog Rows.planLeastRow.laid w) (fun _ _ _ hh h => h.of_heap hh) own started (by kernel_rfl) Tryz.func6
  (ChangeSpec.witness_shaped (enc := enc) (C := Tryz.checked) (os := os) (X := fun w _ => laidMetH Tryz.prog Rows.planLeastRow.laid w) false (World.doorLaid Tryz.prog 400 os) #[.agg #[.slice none 0 0, .int .u8 0, .int .u8 0, .int .i64 0, .int .u8 0], .slice none 0 0, .int .u8 0] 8 rfl (World.shaped_of_RefB (by kernel_rfl) (by kernel_rfl)) (by kernel_rfl) (by kernel_rfl) (by kernel_rfl) (door_met os _)) ?_
 intro W base args ds gs before hval0 hW _ _ hL _
 have hval : ∀ (j : Nat) t v, Tryz.f6.params[j]? = some t → args[j]? = some v → Value.okWide Tryz.prog W .any base t v := hval0
 have hW' := hW
 obtain ⟨p, q, hA0, hV, rfl, hfz, hnd⟩ := hW
 have hA : DataW.TrodAll enc Tryz.prog W 0 (fun _ => true) true Tryz.f6.params.toList args.toList ds p := hA0
 rw [Tryz.params6] at hA hval
 obtain ⟨v0, vs0, d0, ds0, p0, q0, hargs, rfl, rfl, h0, r0⟩ := trodAll_cons hA
 obtain ⟨v1, vs1, d1, ds1, p1, q1, rfl, rfl, rfl, h1, r1⟩ := trodAll_cons r0
 obtain ⟨v2, vs2, d2, ds2, p2, q2, rfl, rfl, rfl, h2, r2⟩ := trodAll_cons r1
 obtain ⟨rfl, rfl, rfl⟩ := trodAll_nil r2
 obtain rfl : args = #[v0, v1, v2] := by cases args; simp_all
 obtain ⟨rfl, rfl⟩ := trodVars_none hV
 obtain ⟨xb, Nb, cb, bs, a, b, c, f, rfl, hbs, hby, ha, hb, hff⟩ := openDraft13 (hval 0 _ _ rfl rfl) h0
 obtain ⟨acts, hacts, hac⟩ := openActs (hval 1 _ _ rfl rfl) h1
 obtain ⟨x, rfl, rfl, rfl, wx⟩ := open_int Tryz.underlying5 (hval 2 5 v2 rfl rfl) h2
 exact (least_walk xb Nb cb bs a b c f v1 acts x (by have := u8_ends wx; omega) W (sg_of_laid hL) hbs hby ha hb hff hacts hac).mono fun e W' ⟨he, hb⟩ => ⟨_, he, Close.law_post laidOut (by kernel_rfl) rfl (by kernel_rfl) Tryz.underlying4 hW' rfl hb⟩
theorem over : Rows.PlanLeastSaid :=
 OpenClaim.holds_of_wide 6 Tryz.f6 rfl rfl rfl rfl rfl rfl rfl ⟨rfl, rfl, rfl, rfl, rfl⟩ rfl rfl rfl rfl rfl (by kernel_rfl) Tryz.func6 (by kernel_rfl)
  (of_decide_eq_true (by kernel_rfl)) (by unfold Func.isWrapper; first | (rw [if_pos (by decide +kernel)]; kernel_rfl) | (rw [if_neg (by decide +kernel)]; exact ⟨rfl, rfl⟩))
  (fun os started H enc _ => lifted os started H enc)
theorem proved : Rows.PlanLeastCardSaid :=
 Claim7.holds_tied_plain_at .later [] [.data, .data] true (true, "e668552edf091549f3a33a44068f668d0797b8d5ae29daa3679ffd99e7045ff1") true
  over (fun _ h => by cases h) (by kernel_rfl) (fun _ h => by cases h) planLeast_row_tie rfl ⟨rfl, rfl⟩ (by kernel_rfl) rfl
  (fun f fn hf hfn => by
   obtain rfl : f = 6 := Option.some.inj ((show Tryz.prog.funcNamed "consign/consignlaw13.PlanLeast" = some 6 by kernel_rfl).symm.trans hf) |>.symm
   obtain rfl : fn = Tryz.f6 := (Option.some.inj (Tryz.func6.symm.trans hfn)).symm
   exact ⟨by kernel_rfl, fun j t ht => by
    rw [Tryz.params6] at ht
    have hm : t ∈ [26, 27, 5] := by simpa using Array.mem_of_getElem? ht
    have hall : ([26, 27, 5].all fun u => !Tryz.prog.wantsStandIn u) = true := by kernel_rfl
    exact (show Tryz.prog.wantsStandIn t = false by simpa using List.all_eq_true.1 hall t hm)⟩)
  (by kernel_rfl)
#print axioms proved
end Go.Proofs.YtlbghdiebjldjaaGreatDoor.planLeast

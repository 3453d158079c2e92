import Derived.Test.YteclpblfleakhaaGreatDoorPkPriceWays

namespace Go.Proofs.YteclpblfleakhaaGreatDoor.Price
open Go.RowKit Go.Sort Go.Proofs.YteclpblfleakhaaGreatDoor.Mem Go.Proofs.YteclpblfleakhaaGreatDoor.Order Go.Proofs.YteclpblfleakhaaGreatDoor.Route Go.Proofs.YteclpblfleakhaaGreatDoor.When Go.Proofs.YteclpblfleakhaaGreatDoor.Load Go.Proofs.YteclpblfleakhaaGreatDoor.Feas Go.Proofs.YteclpblfleakhaaGreatDoor.Ins Go.Proofs.YteclpblfleakhaaGreatDoor.Cheap Go.Proofs.YteclpblfleakhaaGreatDoor.Plan
set_option linter.unusedVariables false
def encQ (y : Int × Wy) : Array Value := #[.int .i64 y.1, .int .i64 y.2.i, .int .i64 y.2.j, .int .i64 y.2.n]
def leastV (S : St) (r : Int) : Int × Wy := (leastQ (waysS S r)).getD (0, ⟨0, 0, 0⟩)
theorem leastQ_one {ys : List (Int × Wy)} {y : Int × Wy} (h : ys[0]? = some y) : leastQ (ys.take 1) = some y := by
 cases ys with
 | nil => cases h
 | cons w ws => cases h; rfl
theorem leastQ_next {ys : List (Int × Wy)} {k : Nat} {b y : Int × Wy} (hb : leastQ (ys.take k) = some b) (h : ys[k]? = some y) : leastQ (ys.take (k + 1)) = some (lessQ b y) := by
 rw [List.take_add_one, h, least_append, hb]
 rfl
theorem leastQ_mem : ∀ {ys : List (Int × Wy)} {y : Int × Wy}, leastQ ys = some y → y ∈ ys
 | [], _, h => by cases h
 | x :: xs, y, h => by
  have key : ∀ (zs : List (Int × Wy)) (a : Int × Wy), zs.foldl lessQ a = a ∨ zs.foldl lessQ a ∈ zs := by
   intro zs
   induction zs with
   | nil => intro a; exact .inl rfl
   | cons z zs ih =>
    intro a
    show zs.foldl lessQ (lessQ a z) = a ∨ _
    rcases ih (lessQ a z) with e | e
    · rw [List.foldl_cons, e]
      unfold lessQ
      split
      · exact .inr (List.mem_cons_self ..)
      · exact .inl rfl
    · exact .inr (List.mem_cons_of_mem _ e)
  have h1 : xs.foldl lessQ x = y := Option.some.inj h
  rcases key xs x with e | e
  · rw [← h1, e]; exact List.mem_cons_self ..
  · rw [← h1]; exact List.mem_cons_of_mem _ e
theorem waysA_mem {S : St} {r : Int} {y : Int × Wy} : ∀ {k : Nat}, y ∈ waysA S r k → ∃ (i : Nat) (v : Vh) (l : List (Int × Int)), i < k ∧ y.1 = i ∧ S.vs[i]? = some v ∧ S.rows[i]? = some l ∧ y.2 ∈ waysP v l S.t r (pairsL l.length)
 | 0, h => by simp [waysA] at h
 | k + 1, h => by
  have h' : y ∈ waysA S r k ++ waysK S r k := h
  rcases List.mem_append.1 h' with h1 | h1
  · obtain ⟨i, v, l, a, b⟩ := waysA_mem h1
    exact ⟨i, v, l, by omega, b⟩
  · unfold waysK at h1
    split at h1
    · rename_i v l hv hl
      obtain ⟨z, hz, rfl⟩ := List.mem_map.1 h1
      exact ⟨k, v, l, by omega, rfl, hv, hl, hz⟩
    · simp at h1
theorem waysS_mem {S : St} {r : Int} {y : Int × Wy} (h : y ∈ waysS S r) : ∃ (i : Nat) (v : Vh) (l : List (Int × Int)), y.1 = i ∧ S.vs[i]? = some v ∧ S.rows[i]? = some l ∧ y.2 ∈ waysP v l S.t r (pairsL l.length) := by
 unfold waysS at h
 split at h
 · obtain ⟨i, v, l, -, h2⟩ := waysA_mem h
   exact ⟨i, v, l, h2⟩
 · simp at h
theorem brute_no {S : St} {r : Int} (h : leastQ (waysS S r) = none) : bruteN S r = 4294967296 := by unfold bruteN; rw [h]
theorem brute_yes {S : St} {r : Int} {y : Int × Wy} (h : leastQ (waysS S r) = some y) : bruteN S r = y.2.n := by unfold bruteN; rw [h]
theorem brute_bd {S : St} (ht : S.t.length ≤ 1000) (hn : ∀ l ∈ S.rows, Nums l) (r : Int) : 0 ≤ bruteN S r ∧ bruteN S r ≤ 4294967296 := by
 cases hl : leastQ (waysS S r) with
 | none => rw [brute_no hl]; omega
 | some y =>
  have hm := leastQ_mem hl
  constructor
  · cases hmay : mayS S
    · rw [ways_no hmay] at hm; simp at hm
    · have ho := may_ok hmay ht hn
      rw [brute_price ho r]
      have := put_tot ho r
      split <;> omega
  · rw [brute_yes hl]
    obtain ⟨i, v, l, -, -, -, hy⟩ := waysS_mem hm
    rw [(waysP_mem hy).2.2]
    have := riseV_bd v l S.t r y.2.i y.2.j
    omega
theorem res_way4 {fn : Func} {p k : Tmp} (h : fn.results = #[.cell p 64, .tmp k]) {tmps : Array Value} {w : World} {g : Nat} {x0 x1 x2 x3 u : Value} (hp : tmps.getD p undef = .pointer (some ⟨g, 0, none⟩)) (hk : tmps.getD k undef = u)
 (hA : At w g 64 #[x0, x1, x2, x3]) : (results fn tmps).run Tryz.prog w = .ok (.tuple #[.agg #[x0, x1, x2, x3], u]) w := by
 have hp' : tmps[p]?.getD undef = .pointer (some ⟨g, 0, none⟩) := by simpa using hp
 have hk' : tmps[k]?.getD undef = u := by simpa using hk
 have c0 := hA.cell 0
 have c1 := hA.cell 1
 have c2 := hA.cell 2
 have c3 := hA.cell 3
 simp at c0 c1 c2 c3
 simp only [results, h]
 go_simp
 try rw [hk']
theorem put_w4 {w : World} {g : Nat} {t : TypeId} {a0 a1 a2 a3 x0 x1 x2 x3 : Value} (h : At w g t #[a0, a1, a2, a3]) :
 At ((((w.setCell ⟨g, 0, none⟩ x0).setCell ⟨g, 1, none⟩ x1).setCell ⟨g, 2, none⟩ x2).setCell ⟨g, 3, none⟩ x3) g t #[x0, x1, x2, x3] := by
 simpa using (((h.put 0 x0).put 1 x1).put 2 x2).put 3 x3
theorem ret_least {a b : Int × Wy} {c d : Bool} (h : a = b) (h2 : c = d) : Ending.returned (.tuple #[.agg (encQ a), .bool c]) = .returned (.tuple #[.agg (encQ b), .bool d]) := by rw [h, h2]
set_option maxRecDepth 100000 in
set_option maxHeartbeats 8000000 in
theorem refLeast_any {vf vr vt : Value} (S : St) (r : Int) (w : World) (hF : Vhs w.heap.size w vf S.vs) (hR : Rws w.heap.size w vr S.rows) (hT : Rqs w.heap.size w vt S.t) (hlen : ∀ l ∈ S.rows, l.length ≤ 100) (hnum : ∀ l ∈ S.rows, Nums l) :
 Calls Tryz.prog 17 #[vf, vr, vt, .int .i64 r] w fun e w' =>
  e = .returned (.tuple #[.agg (encQ (leastV S r)), .bool (leastQ (waysS S r)).isSome]) ∧ Below w.heap.size w w' := by
 obtain ⟨q, hq⟩ : ∃ q, w.heap.size = q := ⟨_, rfl⟩
 obtain ⟨w1, hw1⟩ : ∃ w1, w.alloc (.cells #[.int .i64 0, .int .i64 0, .int .i64 0, .int .i64 0] 64) = w1 := ⟨_, rfl⟩
 have hs1 : w1.heap.size = q + 1 := by rw [← hw1]; simp [hq]
 have hr1 : At w1 q 64 #[.int .i64 0, .int .i64 0, .int .i64 0, .int .i64 0] := by rw [← hw1]; exact At.new_ _ _ _ hq.symm
 have hb1 : Below w.heap.size w w1 := by rw [← hw1]; exact (Below.refl _ _).alloc (Nat.le_refl _) _
 have hAll := refWays_any S r w1 (hF.on hb1) (hR.on hb1) (hT.on hb1) hlen hnum
 rw [hq] at hb1
 obtain ⟨xf, Nf, cf, rfl, -⟩ := Vhs.opened hF
 obtain ⟨xr, Nr, cr, rfl, -⟩ := Rws.opened hR
 obtain ⟨xt, Nt, ct, rfl, -⟩ := Rqs.opened hT
 have hq' := Lib.hid hq
 have hw1' := Lib.hid hw1
 have hr1' := Lib.hid hr1
 have hb1' := Lib.hid hb1
 have hlv : Hid (leastV S r = (leastQ (waysS S r)).getD (0, ⟨0, 0, 0⟩)) := Lib.hid rfl
 obtain ⟨ys, hys⟩ : ∃ ys, waysS S r = ys := ⟨_, rfl⟩
 rw [hys] at hAll hlv ⊢
 clear hq hw1 hr1 hb1 hF hR hT hlen hnum hys
 go_enter Tryz.func17, Tryz.ntmps17
 go_upto_region 1 with fail
 try simp only [hq'.out]
 try rw [hw1'.out]
 go_wp2_with fail
 refine hAll.mono ?_
 clear hAll
 rintro e w2 ⟨⟨u, rfl, hu⟩, hb2⟩
 have hR2 := hr1'.out.keep hb2 (by omega)
 have hB2 := Lib.hid (hb1'.out.trans (hb2.mono (by omega : q ≤ w1.heap.size)))
 have r0 := hR2.cell 0
 have r1 := hR2.cell 1
 have r2 := hR2.cell 2
 have r3 := hR2.cell 3
 have rf := hR2.free
 simp at r0 r1 r2 r3
 have hs2 : q < w2.heap.size := hR2.inside
 have hR2' := Lib.hid hR2
 obtain ⟨xu, Nu, cu, rfl, hNu0, huc1, huc2⟩ := Wqs.opened hu
 have hNu := Lib.hid hNu0
 unfold maxLen at huc2
 have hu' := Lib.hid hu
 clear hb2 hu hNu0 hR2
 by_cases hN0 : Nu = 0
 · have hn : ys = [] := List.length_eq_zero_iff.1 (hNu.out.trans hN0)
   subst hn
   have hwn : Hid (leastV S r = (0, ⟨0, 0, 0⟩)) := Lib.hid hlv.out
   subst hN0
   go_wp2
   refine bodyPost_ret (res_way4 rfl rfl rfl (by exact put_w4 hR2'.out)) rfl ?_
   exact ⟨ret_least (a := (0, ⟨0, 0, 0⟩)) hwn.out.symm rfl, by rw [hq'.out]; exact (((hB2.out.setCell (by simp) _).setCell (by simp) _).setCell (by simp) _).setCell (by simp) _⟩
 obtain ⟨y0, hy0⟩ : ∃ y, ys[0]? = some y := ⟨ys[0]'(by rw [hNu.out]; omega), List.getElem?_eq_getElem _⟩
 obtain ⟨g, o, rfl, hg, c0, c1, c2, c3⟩ := Wqs.at hu'.out hy0
 have hone := Lib.hid (leastQ_one hy0)
 have hN1 : 1 ≤ Nu := by omega
 have hNi : ¬ ((Nu : Int) = 0) := by omega
 obtain ⟨m, hm⟩ : ∃ m, w2.heap.size = m := ⟨_, rfl⟩
 have hm' := Lib.hid hm
 simp at c0 c1 c2 c3
 clear hy0 hN0
 obtain ⟨w3, hw3⟩ : ∃ w3, w2.alloc (.cells #[.int .i64 y0.1, .int .i64 y0.2.i, .int .i64 y0.2.j, .int .i64 y0.2.n] 64) = w3 := ⟨_, rfl⟩
 have hA3 : At w3 m 64 (encQ y0) := by rw [← hw3]; exact At.new_ _ _ _ hm.symm
 have hb3 : Below w2.heap.size w2 w3 := by rw [← hw3]; exact (Below.refl _ _).alloc (Nat.le_refl _) _
 have hw3' := Lib.hid hw3
 clear hw3 hm
 go_upto_region 5 with fail
 try simp only [hm'.out]
 try rw [hw3'.out]
 go_wp2
 go_loopw [12] (fun i wr => ∃ (k : Nat) (b : Int × Wy), i = .int .i64 k ∧ 1 ≤ k ∧ k ≤ Nu ∧ Hid (leastQ (ys.take k) = some b) ∧ At wr m 64 (encQ b) ∧ Below w2.heap.size w2 wr)
  (fun i _ => Nu - (intOf i).toNat)
 case atStart => exact ⟨1, y0, rfl, Nat.le_refl _, hN1, hone, hA3, hb3⟩
 case round =>
  obtain ⟨k, L, rfl, hk1, hk, hL, hA, hbw⟩ := hrel
  clear c0 c1 c2 c3
  have hmw : m < wr.heap.size := hA.inside
  have b0 := hA.cell 0
  have b1 := hA.cell 1
  have b2 := hA.cell 2
  have b3 := hA.cell 3
  have bf := hA.free
  simp [encQ] at b0 b1 b2 b3
  by_cases hlt : k < Nu
  · obtain ⟨y, hy⟩ : ∃ y, ys[k]? = some y := ⟨ys[k]'(by rw [hNu.out]; exact hlt), List.getElem?_eq_getElem _⟩
    obtain ⟨g', o', e9, hg', c0, c1, c2, c3⟩ := Wqs.at (Wqs.keep hu'.out hbw (Nat.le_refl _)) hy
    cases e9
    have hnx := Lib.hid (leastQ_next hL.out hy)
    have hki : (k : Int) < (Nu : Int) := by omega
    have hA' := Lib.hid hA
    have hbw' := Lib.hid hbw
    have hkN := Lib.hid (show k + 1 ≤ Nu from hlt)
    clear hy hA hbw
    by_cases hyl : y.2.n < L.2.n
    · have hl9 := Lib.hid (lessQ_lt hyl)
      go_upto_region 8 with fail
      go_quiet (fail)
      go_wp2
      have hmm := hm'.out
      exact ⟨⟨k + 1, y, by go_num, by omega, hkN.out, Lib.hid (by rw [hnx.out, hl9.out]), put_w4 (hA'.out.drewN nq), ((((Load.below_drewN hbw'.out nq).setCell (by simp; omega) _).setCell (by simp; omega) _).setCell (by simp; omega) _).setCell (by simp; omega) _⟩, by simp [intOf]; omega⟩
    · have hl9 := Lib.hid (lessQ_ge hyl)
      go_upto_region 8 with fail
      go_quiet (fail)
      go_wp2
      exact ⟨⟨k + 1, L, by go_num, by omega, hkN.out, Lib.hid (by rw [hnx.out, hl9.out]), hA'.out.drewN nq, Load.below_drewN hbw'.out nq⟩, by simp [intOf]; omega⟩
  · obtain rfl : k = Nu := by omega
    have hall : Hid (leastQ ys = some L) := Lib.hid (by
     have := hL.out
     rw [← hNu.out, List.take_length] at this
     exact this)
    have hwl : Hid (leastV S r = L) := Lib.hid (by rw [hlv.out, hall.out]; rfl)
    have hso : Hid ((leastQ ys).isSome = true) := Lib.hid (by rw [hall.out]; rfl)
    have hR4 := Lib.hid (hR2'.out.keep hbw hs2)
    have r0 := hR4.out.cell 0
    have r1 := hR4.out.cell 1
    have r2 := hR4.out.cell 2
    have r3 := hR4.out.cell 3
    have rf := hR4.out.free
    simp at r0 r1 r2 r3
    have hB4 := Lib.hid (hB2.out.trans (hbw.mono (by omega : q ≤ w2.heap.size)))
    have hqw : q < wr.heap.size := hR4.out.inside
    clear hL hA hbw
    go_wp2
    refine bodyPost_ret (res_way4 rfl rfl rfl (by exact put_w4 hR4.out)) rfl ?_
    exact ⟨ret_least (a := L) hwl.out.symm hso.out.symm, by rw [hq'.out]; exact (((hB4.out.setCell (by simp) _).setCell (by simp) _).setCell (by simp) _).setCell (by simp) _⟩
theorem ret_u64 {a b : Int} (h : a = b) : Ending.returned (.int .u64 a) = .returned (.int .u64 b) := by rw [h]
set_option maxRecDepth 100000 in
set_option maxHeartbeats 4000000 in
theorem refBrute_any {vf vr vt : Value} (S : St) (r : Int) (w : World) (hF : Vhs w.heap.size w vf S.vs) (hR : Rws w.heap.size w vr S.rows) (hT : Rqs w.heap.size w vt S.t) (hlen : ∀ l ∈ S.rows, l.length ≤ 100) (hnum : ∀ l ∈ S.rows, Nums l) (ht : S.t.length ≤ 1000) :
 Calls Tryz.prog 12 #[vf, vr, vt, .int .i64 r] w fun e w' => e = .returned (.int .u64 (bruteN S r)) ∧ Below w.heap.size w w' := by
 have hL := refLeast_any S r w hF hR hT hlen hnum
 obtain ⟨xf, Nf, cf, rfl, -⟩ := Vhs.opened hF
 obtain ⟨xr, Nr, cr, rfl, -⟩ := Rws.opened hR
 obtain ⟨xt, Nt, ct, rfl, -⟩ := Rqs.opened hT
 have hbd := brute_bd ht hnum r
 have hlv : Hid (leastV S r = (leastQ (waysS S r)).getD (0, ⟨0, 0, 0⟩)) := Lib.hid rfl
 obtain ⟨o, ho⟩ : ∃ o, leastQ (waysS S r) = o := ⟨_, rfl⟩
 rw [ho] at hL hlv
 have ho' := Lib.hid ho
 clear hF hR hT hlen hnum ht ho
 cases o with
 | none =>
  have he := Lib.hid (brute_no ho'.out)
  rw [hlv.out] at hL
  simp only [encQ, Option.getD, Option.isSome] at hL
  clear hbd
  go_enter Tryz.func12, Tryz.ntmps12
  go_wp2_with fail
  refine hL.mono ?_
  clear hL
  rintro e w1 ⟨rfl, hb1⟩
  have hb1' := Lib.hid hb1
  clear hb1
  go_wp2
  go_ret
  exact ⟨ret_u64 he.out.symm, hb1'.out.alloc hb1'.out.size _⟩
 | some y =>
  have he := Lib.hid (brute_yes ho'.out)
  rw [hlv.out] at hL
  simp only [encQ, Option.getD, Option.isSome] at hL
  rw [he.out] at hbd
  obtain ⟨n, hn⟩ : ∃ n, y.2.n = n := ⟨_, rfl⟩
  rw [hn] at hL hbd
  have hn' := Lib.hid hn
  clear hn
  go_enter Tryz.func12, Tryz.ntmps12
  go_wp2_with fail
  refine hL.mono ?_
  clear hL
  rintro e w1 ⟨rfl, hb1⟩
  have hb1' := Lib.hid hb1
  clear hb1
  go_wp2
  go_ret
  exact ⟨ret_u64 (by rw [he.out, hn'.out]), hb1'.out.alloc hb1'.out.size _⟩
end Go.Proofs.YteclpblfleakhaaGreatDoor.Price

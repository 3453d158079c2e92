import Derived.Test.YteclpblfleakhaaDoorPkClose

namespace Go.Proofs.YteclpblfleakhaaDoor.Price
open Go.RowKit Go.Sort Go.Proofs.YteclpblfleakhaaDoor.Mem Go.Proofs.YteclpblfleakhaaDoor.Order Go.Proofs.YteclpblfleakhaaDoor.Route Go.Proofs.YteclpblfleakhaaDoor.When Go.Proofs.YteclpblfleakhaaDoor.Load Go.Proofs.YteclpblfleakhaaDoor.Feas Go.Proofs.YteclpblfleakhaaDoor.Ins Go.Proofs.YteclpblfleakhaaDoor.Cheap Go.Proofs.YteclpblfleakhaaDoor.Plan
set_option linter.unusedVariables false
def kq0 : Rq := ⟨0, 0, 3, 0, 0, 1000, 0, 1000, 1, 0⟩
def kq1 : Rq := ⟨0, 0, 4, 0, 0, 1000, 0, 1000, 6, 0⟩
def kq2 : Rq := ⟨0, 0, 5, 0, 0, 1000, 0, 1000, 1, 0⟩
def kT : List Rq := [kq0, kq1, kq2]
def kl : List (Int × Int) := [(0, 0), (0, 1)]
def kS (k : Nat) (rows : List (List (Int × Int))) : St := ⟨List.replicate k pvA, kT, rows⟩
theorem k_b1 : bruteN (kS 0 []) 0 = 4294967296 := by decide +kernel
theorem k_b2 : bruteN (kS 5 (List.replicate 5 [])) 0 = 4294967296 := by decide +kernel
theorem k_b3 : bruteN (kS 2 [[]]) 0 = 4294967296 := by decide +kernel
theorem k_b4 : bruteN (kS 2 [kl, kl]) 2 = 4294967296 := by decide +kernel
theorem k_b5 : bruteN (kS 4 (List.replicate 4 [])) 1 = 4294967296 := by decide +kernel
theorem k_b6 : bruteN (kS 4 (List.replicate 4 [])) 0 = 6 := by decide +kernel
theorem k_b7 : bruteN (kS 1 [kl]) 0 = 4294967296 := by decide +kernel
theorem k_b8 : bruteN (kS 1 [kl]) 2 = 4 := by decide +kernel
theorem k_l1 : (leastV (kS 1 [kl]) 2).1 = 0 ∧ (leastV (kS 1 [kl]) 2).2.i = 0 ∧ (leastV (kS 1 [kl]) 2).2.j = 1 ∧ (leastQ (waysS (kS 1 [kl]) 2)).isSome = true := by decide +kernel
theorem k_l2 : (leastV (kS 1 [[(0, 0)]]) 2).1 = 0 ∧ (leastV (kS 1 [[(0, 0)]]) 2).2.i = 0 ∧ (leastV (kS 1 [[(0, 0)]]) 2).2.j = 0 ∧ (leastQ (waysS (kS 1 [[(0, 0)]]) 2)).isSome = false := by decide +kernel
def kFC : Array Value := #[.int .i64 0, .int .i64 0, .int .i64 5, .int .i64 0, .int .i64 100, .int .i64 0, .int .i64 0, .int .i64 5, .int .i64 0, .int .i64 100, .int .i64 0, .int .i64 0, .int .i64 5, .int .i64 0, .int .i64 100, .int .i64 0, .int .i64 0, .int .i64 5, .int .i64 0, .int .i64 100, .int .i64 0, .int .i64 0, .int .i64 5, .int .i64 0, .int .i64 100]
def kTC : Array Value := #[.int .i64 0, .int .i64 0, .int .i64 3, .int .i64 0, .int .i64 0, .int .i64 1000, .int .i64 0, .int .i64 1000, .int .i64 1, .int .i64 0, .int .i64 0, .int .i64 0, .int .i64 4, .int .i64 0, .int .i64 0, .int .i64 1000, .int .i64 0, .int .i64 1000, .int .i64 6, .int .i64 0, .int .i64 0, .int .i64 0, .int .i64 5, .int .i64 0, .int .i64 0, .int .i64 1000, .int .i64 0, .int .i64 1000, .int .i64 1, .int .i64 0]
def kLC : Array Value := #[.int .i64 0, .int .i64 0, .int .i64 0, .int .i64 1]
structure KM (gt gl gf : Nat) (W : World) : Prop where
 sg : Sg3 W
 t : At W gt 68 kTC
 l : At W gl 61 kLC
 f : At W gf 47 kFC
theorem KM.on {gt gl gf : Nat} {W W' : World} (h : KM gt gl gf W) (hb : Below W.heap.size W W') : KM gt gl gf W' := ⟨h.sg.on hb, h.t.keep hb h.t.inside, h.l.keep hb h.l.inside, h.f.keep hb h.f.inside⟩
theorem of_prefix {rows : List (List Value)} {cs : Array Value} {n : Nat} (e : rows.flatten = cs.toList.take n) (i : Nat) (u : Value) (hu : rows.flatten[i]? = some u) : cs[i]? = some u := by
 rw [e, List.getElem?_take] at hu
 split at hu
 · simpa using hu
 · cases hu
theorem KM.fleet {gt gl gf : Nat} {W : World} (h : KM gt gl gf W) (k : Nat) (hk : k ≤ 5) (rows : List (List (Int × Int))) : Vhs W.heap.size W (.slice (some ⟨gf, 0, none⟩) k 5) (kS k rows).vs := by
 have e : ((List.replicate k pvA).map vhV).flatten = kFC.toList.take (5 * k) := by
  match k, hk with
  | 0, _ => rfl
  | 1, _ => rfl
  | 2, _ => rfl
  | 3, _ => rfl
  | 4, _ => rfl
  | 5, _ => rfl
 have := RowB.of_at (m := 5) (cap := 5) (rows := (List.replicate k pvA).map vhV) h.f h.f.inside (fun r hr => by obtain ⟨s, _, rfl⟩ := List.mem_map.1 hr; rfl) (of_prefix e) (by simpa using hk) (by unfold maxLen; omega)
 simpa [Vhs, kS] using this
theorem KM.reqs {gt gl gf : Nat} {W : World} (h : KM gt gl gf W) : Rqs W.heap.size W (.slice (some ⟨gt, 0, none⟩) 3 3) kT :=
 RowB.of_at (m := 10) (cap := 3) (rows := kT.map rqV) h.t h.t.inside (fun r hr => by obtain ⟨s, _, rfl⟩ := List.mem_map.1 hr; rfl) (of_prefix (n := 30) rfl) (Nat.le_refl _) (by unfold maxLen; omega)
theorem KM.stops {gt gl gf : Nat} {W : World} (h : KM gt gl gf W) : Row W.heap.size W (.slice (some ⟨gl, 0, none⟩) 2 2) kl :=
 RowB.of_at (m := 2) (cap := 2) (rows := kl.map stV) h.l h.l.inside (fun r hr => by obtain ⟨s, _, rfl⟩ := List.mem_map.1 hr; rfl) (of_prefix (n := 4) rfl) (Nat.le_refl _) (by unfold maxLen; omega)
theorem KM.stop1 {gt gl gf : Nat} {W : World} (h : KM gt gl gf W) : Row W.heap.size W (.slice (some ⟨gl, 0, none⟩) 1 2) [(0, 0)] :=
 RowB.of_at (m := 2) (cap := 2) (rows := [((0 : Int), (0 : Int))].map stV) h.l h.l.inside (fun r hr => by obtain ⟨s, _, rfl⟩ := List.mem_map.1 hr; rfl) (of_prefix (n := 2) rfl) (by decide) (by unfold maxLen; omega)
theorem flat_ones : ∀ l : List Value, (l.map fun u => [u]).flatten = l
 | [] => rfl
 | u :: l => by simp [flat_ones l]
theorem nilR {W : World} {g : Nat} (k : Nat) (hk : k ≤ 1000) (h : At W g 48 (madeCells (Value.slice none 0 0).cells (k * 1))) : Rws W.heap.size W (.slice (some ⟨g, 0, none⟩) k k) (List.replicate k []) := by
 refine ⟨List.replicate k (.slice none 0 0), by simp, ?_, fun i u l hu hl => ?_⟩
 · have := RowB.of_at (m := 1) (cap := k) (rows := (List.replicate k (Value.slice none 0 0)).map fun u => [u]) h h.inside (fun r hr => by obtain ⟨s, _, rfl⟩ := List.mem_map.1 hr; rfl) (of_prefix (n := k) (by rw [cells_nil, flat_ones]; simp)) (by simp) (by unfold maxLen; omega)
   simpa using this
 · have h1 := List.mem_of_getElem? hu
   have h2 := List.mem_of_getElem? hl
   simp at h1 h2
   rw [h1.2, h2.2]
   exact RowB.nil _ _ _
theorem oneR {W : World} {g : Nat} {u : Value} {l : List (Int × Int)} (h : At W g 48 #[u]) (hr : Row W.heap.size W u l) : Rws W.heap.size W (.slice (some ⟨g, 0, none⟩) 1 1) [l] := by
 refine ⟨[u], rfl, RowB.of_at (m := 1) (cap := 1) (rows := [[u]]) h h.inside (fun r hr => by simp at hr; rw [hr]; rfl) (fun i x hx => by simpa using hx) (Nat.le_refl _) (by unfold maxLen; omega), fun i x m hx hm => ?_⟩
 match i with
 | 0 => cases hx; cases hm; exact hr
 | i + 1 => simp at hx
theorem twoR {W : World} {g : Nat} {u : Value} {l : List (Int × Int)} (h : At W g 48 #[u, u]) (hr : Row W.heap.size W u l) : Rws W.heap.size W (.slice (some ⟨g, 0, none⟩) 2 2) [l, l] := by
 refine ⟨[u, u], rfl, RowB.of_at (m := 1) (cap := 2) (rows := [[u], [u]]) h h.inside (fun r hr => by simp at hr; rw [hr]; rfl) (fun i x hx => by simpa using hx) (Nat.le_refl _) (by unfold maxLen; omega), fun i x m hx hm => ?_⟩
 match i with
 | 0 => cases hx; cases hm; exact hr
 | 1 => cases hx; cases hm; exact hr
 | i + 2 => simp at hx
theorem k_rows {rows : List (List (Int × Int))} (h : ∀ l ∈ rows, l = [] ∨ l = kl ∨ l = [(0, 0)]) : (∀ l ∈ rows, l.length ≤ 100) ∧ ∀ l ∈ rows, Nums l := by
 refine ⟨fun l hl => ?_, fun l hl => ?_⟩
 · rcases h l hl with rfl | rfl | rfl <;> decide
 · rcases h l hl with rfl | rfl | rfl
   · exact fun s hs => by cases hs
   · intro s hs
     simp [kl] at hs
     rcases hs with rfl | rfl <;> exact ⟨⟨by decide, by decide⟩, ⟨by decide, by decide⟩⟩
   · intro s hs
     simp at hs
     rw [hs]
     exact ⟨⟨by decide, by decide⟩, ⟨by decide, by decide⟩⟩
theorem kb_any {gt gl gf : Nat} {W : World} (h : KM gt gl gf W) (k : Nat) (hk : k ≤ 5) {vr : Value} {rows : List (List (Int × Int))} (hr : Rws W.heap.size W vr rows) (h3 : ∀ l ∈ rows, l = [] ∨ l = kl ∨ l = [(0, 0)]) {r N : Int} (hN : bruteN (kS k rows) r = N) :
 Calls Tryd.prog 19 #[.slice (some ⟨gf, 0, none⟩) k 5, vr, .slice (some ⟨gt, 0, none⟩) 3 3, .int .i64 r] W fun e w' => e = .returned (.int .u64 N) ∧ Below W.heap.size W w' := by
 have := Brute_any (kS k rows) r W h.sg.sp (h.fleet k hk rows) hr h.reqs (k_rows h3).1 (k_rows h3).2 (by show kT.length ≤ 1000; decide)
 rwa [hN] at this
theorem k0_any {gt gl gf : Nat} {W : World} (h : KM gt gl gf W) :
 Calls Tryd.prog 19 #[.slice none 0 0, .slice none 0 0, .slice (some ⟨gt, 0, none⟩) 3 3, .int .i64 0] W fun e w' => e = .returned (.int .u64 4294967296) ∧ Below W.heap.size W w' := by
 have := Brute_any (kS 0 []) 0 W h.sg.sp (RowB.nil _ _ _) ⟨[], rfl, RowB.nil _ _ _, fun i u l hu hl => by simp at hu⟩ h.reqs (fun l hl => by cases hl) (fun l hl => by cases hl) (by show kT.length ≤ 1000; decide)
 rwa [k_b1] at this
theorem kl_any {gt gl gf : Nat} {W : World} (h : KM gt gl gf W) {vr : Value} {l : List (Int × Int)} (hr : Rws W.heap.size W vr [l]) (h3 : l = kl ∨ l = [(0, 0)]) {j : Int} {b : Bool} (hN : (leastV (kS 1 [l]) 2).1 = 0 ∧ (leastV (kS 1 [l]) 2).2.i = 0 ∧ (leastV (kS 1 [l]) 2).2.j = j ∧ (leastQ (waysS (kS 1 [l]) 2)).isSome = b) :
 Calls Tryd.prog 18 #[.slice (some ⟨gf, 0, none⟩) 1 5, vr, .slice (some ⟨gt, 0, none⟩) 3 3, .int .i64 2] W fun e w' => e = .returned (.tuple #[.int .i64 0, .int .i64 0, .int .i64 j, .bool b]) ∧ Below W.heap.size W w' := by
 have h4 : ∀ m ∈ [l], m = [] ∨ m = kl ∨ m = [(0, 0)] := fun m hm => by simp at hm; rw [hm]; exact .inr h3
 have := Least_any (kS 1 [l]) 2 W h.sg.sp (h.fleet 1 (by decide) [l]) hr h.reqs (k_rows h4).1 (k_rows h4).2 (by show kT.length ≤ 1000; decide)
 rwa [hN.1, hN.2.1, hN.2.2.1, hN.2.2.2] at this
theorem nil_price14 (r : Int) (w : World) : Calls Tryd.prog 24 #[.pointer none, .int .i64 r] w fun e w' => e = .returned (.tuple #[.int .i64 0, .int .i64 0, .int .i64 1]) ∧ w' = w := by
 go_enter Tryd.func24, Tryd.ntmps24
 go_wp2
 refine bodyPost_ret (v := .tuple #[.int .i64 0, .int .i64 0, .int .i64 1]) (by simp [results, Tryd.results24, go_sem]) rfl ?_
 exact ⟨rfl, rfl⟩
theorem nil_bid (r : Int) (w : World) : Calls Tryd.prog 10 #[.pointer none, .int .i64 r] w fun e w' => e = .returned (.int .u64 4294967296) ∧ w' = w := by
 have hW := nil_price14 r w
 go_enter Tryd.func10, Tryd.ntmps10
 go_wp2_with fail
 refine hW.mono ?_
 clear hW
 rintro e w2 ⟨rfl, rfl⟩
 go_wp2
 go_ret
 exact ⟨rfl, rfl⟩
set_option maxRecDepth 100000 in
set_option maxHeartbeats 16000000 in
theorem known_walk (w : World) (hsg : Sg3 w) : Calls Tryd.prog 6 #[] w fun e w' => e = .returned (.bool true) ∧ Below w.heap.size w w' := by
 obtain ⟨q, hq⟩ : ∃ q, w.heap.size = q := ⟨_, rfl⟩
 obtain ⟨wa, hwa⟩ : ∃ wa, w.alloc (.cells #[.int .i64 0, .int .i64 1000] 66) = wa := ⟨_, rfl⟩
 have hka : At wa q 66 #[.int .i64 0, .int .i64 1000] := by rw [← hwa]; exact At.new_ _ _ _ hq.symm
 have hsa : wa.heap.size = q + 1 := by rw [← hwa]; simp [hq]
 have hba : Below q w wa := by rw [← hwa]; exact (Below.refl _ _).alloc (by omega) _
 obtain ⟨wb, hwb⟩ : ∃ wb, wa.alloc (.cells #[.int .i64 0, .int .i64 0, .int .i64 5, .int .i64 0, .int .i64 100] 47) = wb := ⟨_, rfl⟩
 have hkb : At wb q 66 #[.int .i64 0, .int .i64 1000] := by rw [← hwb]; exact hka.alloc _
 have hvb : At wb (q + 1) 47 #[.int .i64 0, .int .i64 0, .int .i64 5, .int .i64 0, .int .i64 100] := by rw [← hwb]; exact At.new_ _ _ _ hsa.symm
 have hsb : wb.heap.size = q + 2 := by rw [← hwb]; simp [hsa]
 have hbb : Below q w wb := by rw [← hwb]; exact hba.alloc (by omega) _
 obtain ⟨wc, hwc⟩ : ∃ wc, (wb.alloc (.cells kTC 68)).alloc (.cells kLC 61) = wc := ⟨_, rfl⟩
 have hvc : At wc (q + 1) 47 #[.int .i64 0, .int .i64 0, .int .i64 5, .int .i64 0, .int .i64 100] := by rw [← hwc]; exact (hvb.alloc _).alloc _
 have htc : At wc (q + 2) 68 kTC := by rw [← hwc]; exact (At.new_ _ _ _ hsb.symm).alloc _
 have hlc : At wc (q + 3) 61 kLC := by rw [← hwc]; exact At.new_ _ _ _ (by simp [hsb])
 have hsc : wc.heap.size = q + 4 := by rw [← hwc]; simp [hsb]
 have hbc : Below q w wc := by rw [← hwc]; exact (hbb.alloc (by omega) _).alloc (by simp; omega) _
 obtain ⟨w1, hw1⟩ : ∃ w1, wc.alloc (.cells kFC 47) = w1 := ⟨_, rfl⟩
 have hb1 : Below q w w1 := by rw [← hw1]; exact hbc.alloc (by omega) _
 have hK1 : KM (q + 2) (q + 3) (q + 4) w1 := ⟨hsg.on (by rw [hq]; exact hb1), by rw [← hw1]; exact htc.alloc _, by rw [← hw1]; exact hlc.alloc _, by rw [← hw1]; exact At.new_ _ _ _ hsc.symm⟩
 have hs1 : q ≤ w1.heap.size := by rw [← hw1]; simp; omega
 have a0 := hka.cell 0
 have a1 := hka.cell 1
 have k0 := hkb.cell 0
 have k1 := hkb.cell 1
 have c0 := hvc.cell 0
 have c1 := hvc.cell 1
 have c2 := hvc.cell 2
 have c3 := hvc.cell 3
 have c4 := hvc.cell 4
 simp at a0 a1 k0 k1 c0 c1 c2 c3 c4
 have hq' := Lib.hid hq
 have hwa' := Lib.hid hwa
 have hwb' := Lib.hid hwb
 have hwc' := Lib.hid hwc
 have hw1' := Lib.hid hw1
 have hsa' := Lib.hid hsa
 have hsb' := Lib.hid hsb
 have hsc' := Lib.hid hsc
 have hB1 := Lib.hid hb1
 have hK1' := Lib.hid hK1
 have hqa : q < wa.heap.size := by omega
 have hqb : q < wb.heap.size := by omega
 have hqc : q + 1 < wc.heap.size := by omega
 clear hq hwa hwb hwc hw1 hsa hsb hsc hka hkb hvb hvc htc hlc hba hbb hbc hb1 hsg
 obtain ⟨gt, hgt⟩ : ∃ g, q + 2 = g := ⟨_, rfl⟩
 obtain ⟨gl, hgl⟩ : ∃ g, q + 3 = g := ⟨_, rfl⟩
 obtain ⟨gf, hgf⟩ : ∃ g, q + 4 = g := ⟨_, rfl⟩
 rw [hgt, hgl, hgf] at hK1
 have hC := k0_any hK1
 obtain ⟨cs5, hcs5, hmk5⟩ : ∃ cs, Hid (madeCells (Value.slice none 0 0).cells (5 * 1) = cs) ∧ ∀ W, (Instr.makeSlice 29 (.int .i64 5) (.int .i64 5)).run Tryd.prog W = .ok (.slice (some ⟨W.heap.size, 0, none⟩) 5 5) (W.alloc (.cells cs 48)) := ⟨_, Lib.hid rfl, made_stops 5 (by decide)⟩
 obtain ⟨cs4, hcs4, hmk4⟩ : ∃ cs, Hid (madeCells (Value.slice none 0 0).cells (4 * 1) = cs) ∧ ∀ W, (Instr.makeSlice 29 (.int .i64 4) (.int .i64 4)).run Tryd.prog W = .ok (.slice (some ⟨W.heap.size, 0, none⟩) 4 4) (W.alloc (.cells cs 48)) := ⟨_, Lib.hid rfl, made_stops 4 (by decide)⟩
 have hK := Lib.hid hK1
 have hgl2 : Hid (gt + 1 = gl) := Lib.hid (by omega)
 have hgt' := Lib.hid hgt
 have hgl' := Lib.hid hgl
 have hgf' := Lib.hid hgf
 clear hgt hgl hgf hK1 hK1'
 go_enter Tryd.func6, Tryd.ntmps6
 go_upto_region 2 with fail
 try simp only [hq'.out]
 rw [hwa'.out]
 go_upto_region 3 with fail
 try simp only [hsa'.out]
 rw [hwb'.out]
 go_upto_region 5 with fail
 try simp only [hsb'.out]
 unfold kTC kLC at hwc'
 rw [hwc'.out]
 go_upto_region 6 with fail
 try simp only [hsc'.out]
 unfold kFC at hw1'
 rw [hw1'.out]
 try simp only [hgt'.out, hgl2.out, hgf'.out]
 clear a0 a1 k0 k1 c0 c1 c2 c3 c4 hqa hqb hqc
 go_wp2_with fail
 refine hC.mono ?_
 clear hC
 rintro e w2 ⟨rfl, hb2⟩
 have hK2 := Lib.hid (hK.out.on hb2)
 have hB2 := Lib.hid (hB1.out.trans (hb2.mono hs1))
 have hs2 : q ≤ w2.heap.size := Nat.le_trans hs1 hb2.size
 clear hb2 hK hB1 hs1
 go_wp2_with fail
 have hKx := hK2.out.on ((Below.refl w2.heap.size w2).alloc (Nat.le_refl _) (.cells cs5 48))
 refine (kb_any hKx 5 (by decide) (nilR 5 (by decide) (by rw [hcs5.out]; exact At.new _ _ _)) (by decide) k_b2).mono ?_
 clear hKx
 rintro e w3 ⟨rfl, hby⟩
 have hbx : Below w2.heap.size w2 w3 := ((Below.refl w2.heap.size w2).alloc (Nat.le_refl _) (.cells cs5 48)).trans (hby.mono (by simp))
 have hK3 := Lib.hid (hK2.out.on hbx)
 have hB3 := Lib.hid (hB2.out.trans (hbx.mono hs2))
 have hs3 : q ≤ w3.heap.size := Nat.le_trans hs2 hbx.size
 clear hby hbx hK2 hB2 hs2
 go_wp2_with fail
 have hKx := hK3.out.on ((Below.refl w3.heap.size w3).alloc (Nat.le_refl _) (.cells #[.slice none 0 0] 48))
 refine (kb_any hKx 2 (by decide) (oneR (At.new _ _ _) (show Row _ _ (.slice none 0 0) [] from RowB.nil _ _ _)) (by decide) k_b3).mono ?_
 clear hKx
 rintro e w4 ⟨rfl, hby⟩
 have hbx : Below w3.heap.size w3 w4 := ((Below.refl w3.heap.size w3).alloc (Nat.le_refl _) (.cells #[.slice none 0 0] 48)).trans (hby.mono (by simp))
 have hK4 := Lib.hid (hK3.out.on hbx)
 have hB4 := Lib.hid (hB3.out.trans (hbx.mono hs3))
 have hs4 : q ≤ w4.heap.size := Nat.le_trans hs3 hbx.size
 clear hby hbx hK3 hB3 hs3
 go_wp2_with fail
 have hKx := hK4.out.on ((Below.refl w4.heap.size w4).alloc (Nat.le_refl _) (.cells #[.slice (some ⟨gl, 0, none⟩) 2 2, .slice (some ⟨gl, 0, none⟩) 2 2] 48))
 refine (kb_any hKx 2 (by decide) (twoR (At.new _ _ _) hKx.stops) (by decide) k_b4).mono ?_
 clear hKx
 rintro e w5 ⟨rfl, hby⟩
 have hbx : Below w4.heap.size w4 w5 := ((Below.refl w4.heap.size w4).alloc (Nat.le_refl _) (.cells #[.slice (some ⟨gl, 0, none⟩) 2 2, .slice (some ⟨gl, 0, none⟩) 2 2] 48)).trans (hby.mono (by simp))
 have hK5 := Lib.hid (hK4.out.on hbx)
 have hB5 := Lib.hid (hB4.out.trans (hbx.mono hs4))
 have hs5 : q ≤ w5.heap.size := Nat.le_trans hs4 hbx.size
 clear hby hbx hK4 hB4 hs4
 go_upto_region 7 with fail
 refine Sched.wp_region_sched 32 (fun W W' => Below W.heap.size W W') (VK [.val (.slice (some ⟨gf, 0, none⟩) 5 5), .val (.slice (some ⟨gf, 0, none⟩) 4 5), .of (fun v w => ∃ g : Nat, v = .slice (some ⟨g, 0, none⟩) 4 4 ∧ At w g 48 cs4) (fun ⟨g, e, h⟩ hb => ⟨g, e, h.keep hb h.inside⟩), .val (.slice (some ⟨gt, 0, none⟩) 3 3), .val (.int .u64 4294967296), .val (.bool true), .val (.bool true), .val (.slice (some ⟨gf, 0, none⟩) 5 5), .val (.slice (some ⟨gf, 0, none⟩) 4 5), .of (fun v w => ∃ g : Nat, v = .slice (some ⟨g, 0, none⟩) 4 4 ∧ At w g 48 cs4) (fun ⟨g, e, h⟩ hb => ⟨g, e, h.keep hb h.inside⟩), .val (.slice (some ⟨gt, 0, none⟩) 3 3), .val (.int .u64 6), .val (.bool true), .val (.bool true), .val (.bool true), .val (.slice (some ⟨gf, 0, none⟩) 5 5), .val (.slice (some ⟨gf, 0, none⟩) 1 5), .val (.slice (some ⟨gl, 0, none⟩) 2 2), .of (fun v w => ∃ g : Nat, v = .slice (some ⟨g, 0, none⟩) 1 1 ∧ At w g 48 #[.slice (some ⟨gl, 0, none⟩) 2 2]) (fun ⟨g, e, h⟩ hb => ⟨g, e, h.keep hb h.inside⟩), .val (.slice (some ⟨gt, 0, none⟩) 3 3), .val (.int .u64 4294967296), .val (.bool true), .val (.bool true), .val (.bool true), .val (.slice (some ⟨gf, 0, none⟩) 5 5), .val (.slice (some ⟨gf, 0, none⟩) 1 5), .val (.slice (some ⟨gl, 0, none⟩) 2 2), .of (fun v w => ∃ g : Nat, v = .slice (some ⟨g, 0, none⟩) 1 1 ∧ At w g 48 #[.slice (some ⟨gl, 0, none⟩) 2 2]) (fun ⟨g, e, h⟩ hb => ⟨g, e, h.keep hb h.inside⟩), .val (.slice (some ⟨gt, 0, none⟩) 3 3), .val (.int .u64 4), .val (.bool true), .val (.bool true)]) (fun _ _ _ => True) (by kernel_rfl) (by kernel_rfl) (by kernel_rfl) (fun h1 h2 => belowTr h1 h2) (fun h1 h2 => VK.keep h1 h2) (Below.refl _ _).drew (fun _ => trivial) (Sched.StepsA.steps (by kernel_rfl) ?hSA) ?hQA
 case hSA =>
  simp only [List.take_succ_cons, List.take_zero]
  refine ⟨?_, ?_, ?_, ?_, ?_, ?_, ?_, ?_, ?_, ?_, ?_, ?_, ?_, ?_, ?_, ?_, ?_, ?_, ?_, ?_, ?_, ?_, ?_, ?_, ?_, ?_, ?_, ?_, ?_, ?_, ?_, ?_, trivial⟩
  · intro ys done W aa hE hn hF hD hZ hG hO
    replace hE : Below w5.heap.size w5 W := hE
    have o5 := hO 5 (by kernel_rfl)
    replace o5 : aa.tmps[5]? = some (.slice (some ⟨gf, 0, none⟩) 5 5) := o5
    go_wp2_with fail
    first | exact ⟨_, rfl, Below.refl _ _, VK.val rfl rfl, trivial⟩ | exact ⟨_, rfl, Below.refl _ _, VK.val rfl rfl⟩
  · intro ys done W aa hE hn hF hD hZ hG hO
    replace hE : Below w5.heap.size w5 W := hE
    have v0 := (hF 0 (by decide) (hD 0 (by kernel_rfl))).eq rfl
    have g0 := hG 0 68 rfl (Nat.le_of_ble_eq_true rfl)
    rw [v0] at g0
    go_wp2_with fail
    first | exact ⟨_, rfl, Below.refl _ _, VK.val rfl rfl, trivial⟩ | exact ⟨_, rfl, Below.refl _ _, VK.val rfl rfl⟩
  · intro ys done W aa hE hn hF hD hZ hG hO
    replace hE : Below w5.heap.size w5 W := hE
    go_wp2_with fail
    first | exact ⟨_, rfl, (Below.refl _ _).alloc (Nat.le_refl _) _, VK.of rfl ⟨_, rfl, At.new _ _ _⟩, trivial⟩ | exact ⟨_, rfl, (Below.refl _ _).alloc (Nat.le_refl _) _, VK.of rfl ⟨_, rfl, At.new _ _ _⟩⟩
  · intro ys done W aa hE hn hF hD hZ hG hO
    replace hE : Below w5.heap.size w5 W := hE
    have o3 := hO 3 (by kernel_rfl)
    replace o3 : aa.tmps[3]? = some (.slice (some ⟨gt, 0, none⟩) 3 3) := o3
    go_wp2_with fail
    first | exact ⟨_, rfl, Below.refl _ _, VK.val rfl rfl, trivial⟩ | exact ⟨_, rfl, Below.refl _ _, VK.val rfl rfl⟩
  · intro ys done W aa hE hn hF hD hZ hG hO
    replace hE : Below w5.heap.size w5 W := hE
    have v1 := (hF 1 (by decide) (hD 1 (by kernel_rfl))).eq rfl
    have g1 := hG 1 69 rfl (Nat.le_of_ble_eq_true rfl)
    rw [v1] at g1
    have v2 := (hF 2 (by decide) (hD 2 (by kernel_rfl))).get rfl
    have g2 := hG 2 70 rfl (Nat.le_of_ble_eq_true rfl)
    have v3 := (hF 3 (by decide) (hD 3 (by kernel_rfl))).eq rfl
    have g3 := hG 3 71 rfl (Nat.le_of_ble_eq_true rfl)
    rw [v3] at g3
    obtain ⟨gm, em, hAm⟩ := v2
    rw [em] at g2
    have hKW := hK5.out.on hE
    go_wp2_with fail
    refine (kb_any hKW 4 (by decide) (nilR 4 (by decide) (by rw [hcs4.out]; exact hAm)) (by decide) k_b5).mono ?_
    rintro e W' ⟨rfl, hb'⟩
    replace hb' := Lib.hid hb'
    go_wp2_with fail
    first | exact ⟨_, rfl, hb'.out, VK.val rfl rfl, trivial⟩ | exact ⟨_, rfl, hb'.out, VK.val rfl rfl⟩
  · intro ys done W aa hE hn hF hD hZ hG hO
    replace hE : Below w5.heap.size w5 W := hE
    have v4 := (hF 4 (by decide) (hD 4 (by kernel_rfl))).eq rfl
    have g4 := hG 4 72 rfl (Nat.le_of_ble_eq_true rfl)
    rw [v4] at g4
    go_wp2_with fail
    first | exact ⟨_, rfl, Below.refl _ _, VK.val rfl rfl, trivial⟩ | exact ⟨_, rfl, Below.refl _ _, VK.val rfl rfl⟩
  · intro ys done W aa hE hn hF hD hZ hG hO
    replace hE : Below w5.heap.size w5 W := hE
    have v5 := (hF 5 (by decide) (hD 5 (by kernel_rfl))).eq rfl
    have g5 := hG 5 73 rfl (Nat.le_of_ble_eq_true rfl)
    rw [v5] at g5
    go_wp2_with fail
    first | exact ⟨_, rfl, Below.refl _ _, VK.val rfl rfl, trivial⟩ | exact ⟨_, rfl, Below.refl _ _, VK.val rfl rfl⟩
  · intro ys done W aa hE hn hF hD hZ hG hO
    replace hE : Below w5.heap.size w5 W := hE
    have v6 := (hF 6 (by decide) (hD 6 (by kernel_rfl))).eq rfl
    have g6 := hG 6 74 rfl (Nat.le_of_ble_eq_true rfl)
    rw [v6] at g6
    refine BigFrame.wpList_want (by simp [Region.wanted, yielded, g6]) ?_
    intro K hK
    have o5 := hO 5 (by kernel_rfl)
    replace o5 : aa.tmps[5]? = some (.slice (some ⟨gf, 0, none⟩) 5 5) := o5
    go_wp2_with fail
    first | exact ⟨_, rfl, Below.refl _ _, VK.val rfl rfl, trivial⟩ | exact ⟨_, rfl, Below.refl _ _, VK.val rfl rfl⟩
  · intro ys done W aa hE hn hF hD hZ hG hO
    replace hE : Below w5.heap.size w5 W := hE
    have v6 := (hF 6 (by decide) (hD 6 (by kernel_rfl))).eq rfl
    have g6 := hG 6 74 rfl (Nat.le_of_ble_eq_true rfl)
    rw [v6] at g6
    refine BigFrame.wpList_want (by simp [Region.wanted, yielded, g6]) ?_
    intro K hK
    have v7 := (hF 7 (by decide) (hD 7 (by kernel_rfl))).eq rfl
    have g7 := hG 7 75 rfl (Nat.le_of_ble_eq_true rfl)
    rw [v7] at g7
    go_wp2_with fail
    first | exact ⟨_, rfl, Below.refl _ _, VK.val rfl rfl, trivial⟩ | exact ⟨_, rfl, Below.refl _ _, VK.val rfl rfl⟩
  · intro ys done W aa hE hn hF hD hZ hG hO
    replace hE : Below w5.heap.size w5 W := hE
    have v6 := (hF 6 (by decide) (hD 6 (by kernel_rfl))).eq rfl
    have g6 := hG 6 74 rfl (Nat.le_of_ble_eq_true rfl)
    rw [v6] at g6
    refine BigFrame.wpList_want (by simp [Region.wanted, yielded, g6]) ?_
    intro K hK
    go_wp2_with fail
    first | exact ⟨_, rfl, (Below.refl _ _).alloc (Nat.le_refl _) _, VK.of rfl ⟨_, rfl, At.new _ _ _⟩, trivial⟩ | exact ⟨_, rfl, (Below.refl _ _).alloc (Nat.le_refl _) _, VK.of rfl ⟨_, rfl, At.new _ _ _⟩⟩
  · intro ys done W aa hE hn hF hD hZ hG hO
    replace hE : Below w5.heap.size w5 W := hE
    have v6 := (hF 6 (by decide) (hD 6 (by kernel_rfl))).eq rfl
    have g6 := hG 6 74 rfl (Nat.le_of_ble_eq_true rfl)
    rw [v6] at g6
    refine BigFrame.wpList_want (by simp [Region.wanted, yielded, g6]) ?_
    intro K hK
    have o3 := hO 3 (by kernel_rfl)
    replace o3 : aa.tmps[3]? = some (.slice (some ⟨gt, 0, none⟩) 3 3) := o3
    go_wp2_with fail
    first | exact ⟨_, rfl, Below.refl _ _, VK.val rfl rfl, trivial⟩ | exact ⟨_, rfl, Below.refl _ _, VK.val rfl rfl⟩
  · intro ys done W aa hE hn hF hD hZ hG hO
    replace hE : Below w5.heap.size w5 W := hE
    have v6 := (hF 6 (by decide) (hD 6 (by kernel_rfl))).eq rfl
    have g6 := hG 6 74 rfl (Nat.le_of_ble_eq_true rfl)
    rw [v6] at g6
    refine BigFrame.wpList_want (by simp [Region.wanted, yielded, g6]) ?_
    intro K hK
    have v8 := (hF 8 (by decide) (hD 8 (by kernel_rfl))).eq rfl
    have g8 := hG 8 76 rfl (Nat.le_of_ble_eq_true rfl)
    rw [v8] at g8
    have v9 := (hF 9 (by decide) (hD 9 (by kernel_rfl))).get rfl
    have g9 := hG 9 77 rfl (Nat.le_of_ble_eq_true rfl)
    have v10 := (hF 10 (by decide) (hD 10 (by kernel_rfl))).eq rfl
    have g10 := hG 10 78 rfl (Nat.le_of_ble_eq_true rfl)
    rw [v10] at g10
    obtain ⟨gm, em, hAm⟩ := v9
    rw [em] at g9
    have hKW := hK5.out.on hE
    go_wp2_with fail
    refine (kb_any hKW 4 (by decide) (nilR 4 (by decide) (by rw [hcs4.out]; exact hAm)) (by decide) k_b6).mono ?_
    rintro e W' ⟨rfl, hb'⟩
    replace hb' := Lib.hid hb'
    go_wp2_with fail
    first | exact ⟨_, rfl, hb'.out, VK.val rfl rfl, trivial⟩ | exact ⟨_, rfl, hb'.out, VK.val rfl rfl⟩
  · intro ys done W aa hE hn hF hD hZ hG hO
    replace hE : Below w5.heap.size w5 W := hE
    have v6 := (hF 6 (by decide) (hD 6 (by kernel_rfl))).eq rfl
    have g6 := hG 6 74 rfl (Nat.le_of_ble_eq_true rfl)
    rw [v6] at g6
    refine BigFrame.wpList_want (by simp [Region.wanted, yielded, g6]) ?_
    intro K hK
    have v11 := (hF 11 (by decide) (hD 11 (by kernel_rfl))).eq rfl
    have g11 := hG 11 79 rfl (Nat.le_of_ble_eq_true rfl)
    rw [v11] at g11
    go_wp2_with fail
    first | exact ⟨_, rfl, Below.refl _ _, VK.val rfl rfl, trivial⟩ | exact ⟨_, rfl, Below.refl _ _, VK.val rfl rfl⟩
  · intro ys done W aa hE hn hF hD hZ hG hO
    replace hE : Below w5.heap.size w5 W := hE
    have v6 := (hF 6 (by decide) (hD 6 (by kernel_rfl))).eq rfl
    have g6 := hG 6 74 rfl (Nat.le_of_ble_eq_true rfl)
    rw [v6] at g6
    have v12 := (hF 12 (by decide) (hD 12 (by kernel_rfl))).eq rfl
    have g12 := hG 12 80 rfl (Nat.le_of_ble_eq_true rfl)
    rw [v12] at g12
    go_wp2_with fail
    first | exact ⟨_, rfl, Below.refl _ _, VK.val rfl rfl, trivial⟩ | exact ⟨_, rfl, Below.refl _ _, VK.val rfl rfl⟩
  · intro ys done W aa hE hn hF hD hZ hG hO
    replace hE : Below w5.heap.size w5 W := hE
    have v13 := (hF 13 (by decide) (hD 13 (by kernel_rfl))).eq rfl
    have g13 := hG 13 81 rfl (Nat.le_of_ble_eq_true rfl)
    rw [v13] at g13
    go_wp2_with fail
    first | exact ⟨_, rfl, Below.refl _ _, VK.val rfl rfl, trivial⟩ | exact ⟨_, rfl, Below.refl _ _, VK.val rfl rfl⟩
  · intro ys done W aa hE hn hF hD hZ hG hO
    replace hE : Below w5.heap.size w5 W := hE
    have v14 := (hF 14 (by decide) (hD 14 (by kernel_rfl))).eq rfl
    have g14 := hG 14 82 rfl (Nat.le_of_ble_eq_true rfl)
    rw [v14] at g14
    refine BigFrame.wpList_want (by simp [Region.wanted, yielded, g14]) ?_
    intro K hK
    have o5 := hO 5 (by kernel_rfl)
    replace o5 : aa.tmps[5]? = some (.slice (some ⟨gf, 0, none⟩) 5 5) := o5
    go_wp2_with fail
    first | exact ⟨_, rfl, Below.refl _ _, VK.val rfl rfl, trivial⟩ | exact ⟨_, rfl, Below.refl _ _, VK.val rfl rfl⟩
  · intro ys done W aa hE hn hF hD hZ hG hO
    replace hE : Below w5.heap.size w5 W := hE
    have v14 := (hF 14 (by decide) (hD 14 (by kernel_rfl))).eq rfl
    have g14 := hG 14 82 rfl (Nat.le_of_ble_eq_true rfl)
    rw [v14] at g14
    refine BigFrame.wpList_want (by simp [Region.wanted, yielded, g14]) ?_
    intro K hK
    have v15 := (hF 15 (by decide) (hD 15 (by kernel_rfl))).eq rfl
    have g15 := hG 15 83 rfl (Nat.le_of_ble_eq_true rfl)
    rw [v15] at g15
    go_wp2_with fail
    first | exact ⟨_, rfl, Below.refl _ _, VK.val rfl rfl, trivial⟩ | exact ⟨_, rfl, Below.refl _ _, VK.val rfl rfl⟩
  · intro ys done W aa hE hn hF hD hZ hG hO
    replace hE : Below w5.heap.size w5 W := hE
    have v14 := (hF 14 (by decide) (hD 14 (by kernel_rfl))).eq rfl
    have g14 := hG 14 82 rfl (Nat.le_of_ble_eq_true rfl)
    rw [v14] at g14
    refine BigFrame.wpList_want (by simp [Region.wanted, yielded, g14]) ?_
    intro K hK
    have o4 := hO 4 (by kernel_rfl)
    replace o4 : aa.tmps[4]? = some (.slice (some ⟨gl, 0, none⟩) 2 2) := o4
    go_wp2_with fail
    first | exact ⟨_, rfl, Below.refl _ _, VK.val rfl rfl, trivial⟩ | exact ⟨_, rfl, Below.refl _ _, VK.val rfl rfl⟩
  · intro ys done W aa hE hn hF hD hZ hG hO
    replace hE : Below w5.heap.size w5 W := hE
    have v14 := (hF 14 (by decide) (hD 14 (by kernel_rfl))).eq rfl
    have g14 := hG 14 82 rfl (Nat.le_of_ble_eq_true rfl)
    rw [v14] at g14
    refine BigFrame.wpList_want (by simp [Region.wanted, yielded, g14]) ?_
    intro K hK
    have v17 := (hF 17 (by decide) (hD 17 (by kernel_rfl))).eq rfl
    have g17 := hG 17 85 rfl (Nat.le_of_ble_eq_true rfl)
    rw [v17] at g17
    go_wp2_with fail
    first | exact ⟨_, rfl, (Below.refl _ _).alloc (Nat.le_refl _) _, VK.of rfl ⟨_, rfl, At.new _ _ _⟩, trivial⟩ | exact ⟨_, rfl, (Below.refl _ _).alloc (Nat.le_refl _) _, VK.of rfl ⟨_, rfl, At.new _ _ _⟩⟩
  · intro ys done W aa hE hn hF hD hZ hG hO
    replace hE : Below w5.heap.size w5 W := hE
    have v14 := (hF 14 (by decide) (hD 14 (by kernel_rfl))).eq rfl
    have g14 := hG 14 82 rfl (Nat.le_of_ble_eq_true rfl)
    rw [v14] at g14
    refine BigFrame.wpList_want (by simp [Region.wanted, yielded, g14]) ?_
    intro K hK
    have o3 := hO 3 (by kernel_rfl)
    replace o3 : aa.tmps[3]? = some (.slice (some ⟨gt, 0, none⟩) 3 3) := o3
    go_wp2_with fail
    first | exact ⟨_, rfl, Below.refl _ _, VK.val rfl rfl, trivial⟩ | exact ⟨_, rfl, Below.refl _ _, VK.val rfl rfl⟩
  · intro ys done W aa hE hn hF hD hZ hG hO
    replace hE : Below w5.heap.size w5 W := hE
    have v14 := (hF 14 (by decide) (hD 14 (by kernel_rfl))).eq rfl
    have g14 := hG 14 82 rfl (Nat.le_of_ble_eq_true rfl)
    rw [v14] at g14
    refine BigFrame.wpList_want (by simp [Region.wanted, yielded, g14]) ?_
    intro K hK
    have v16 := (hF 16 (by decide) (hD 16 (by kernel_rfl))).eq rfl
    have g16 := hG 16 84 rfl (Nat.le_of_ble_eq_true rfl)
    rw [v16] at g16
    have v18 := (hF 18 (by decide) (hD 18 (by kernel_rfl))).get rfl
    have g18 := hG 18 86 rfl (Nat.le_of_ble_eq_true rfl)
    have v19 := (hF 19 (by decide) (hD 19 (by kernel_rfl))).eq rfl
    have g19 := hG 19 87 rfl (Nat.le_of_ble_eq_true rfl)
    rw [v19] at g19
    obtain ⟨gm, em, hAm⟩ := v18
    rw [em] at g18
    have hKW := hK5.out.on hE
    go_wp2_with fail
    refine (kb_any hKW 1 (by decide) (oneR hAm hKW.stops) (by decide) k_b7).mono ?_
    rintro e W' ⟨rfl, hb'⟩
    replace hb' := Lib.hid hb'
    go_wp2_with fail
    first | exact ⟨_, rfl, hb'.out, VK.val rfl rfl, trivial⟩ | exact ⟨_, rfl, hb'.out, VK.val rfl rfl⟩
  · intro ys done W aa hE hn hF hD hZ hG hO
    replace hE : Below w5.heap.size w5 W := hE
    have v14 := (hF 14 (by decide) (hD 14 (by kernel_rfl))).eq rfl
    have g14 := hG 14 82 rfl (Nat.le_of_ble_eq_true rfl)
    rw [v14] at g14
    refine BigFrame.wpList_want (by simp [Region.wanted, yielded, g14]) ?_
    intro K hK
    have v20 := (hF 20 (by decide) (hD 20 (by kernel_rfl))).eq rfl
    have g20 := hG 20 88 rfl (Nat.le_of_ble_eq_true rfl)
    rw [v20] at g20
    go_wp2_with fail
    first | exact ⟨_, rfl, Below.refl _ _, VK.val rfl rfl, trivial⟩ | exact ⟨_, rfl, Below.refl _ _, VK.val rfl rfl⟩
  · intro ys done W aa hE hn hF hD hZ hG hO
    replace hE : Below w5.heap.size w5 W := hE
    have v14 := (hF 14 (by decide) (hD 14 (by kernel_rfl))).eq rfl
    have g14 := hG 14 82 rfl (Nat.le_of_ble_eq_true rfl)
    rw [v14] at g14
    have v21 := (hF 21 (by decide) (hD 21 (by kernel_rfl))).eq rfl
    have g21 := hG 21 89 rfl (Nat.le_of_ble_eq_true rfl)
    rw [v21] at g21
    go_wp2_with fail
    first | exact ⟨_, rfl, Below.refl _ _, VK.val rfl rfl, trivial⟩ | exact ⟨_, rfl, Below.refl _ _, VK.val rfl rfl⟩
  · intro ys done W aa hE hn hF hD hZ hG hO
    replace hE : Below w5.heap.size w5 W := hE
    have v22 := (hF 22 (by decide) (hD 22 (by kernel_rfl))).eq rfl
    have g22 := hG 22 90 rfl (Nat.le_of_ble_eq_true rfl)
    rw [v22] at g22
    go_wp2_with fail
    first | exact ⟨_, rfl, Below.refl _ _, VK.val rfl rfl, trivial⟩ | exact ⟨_, rfl, Below.refl _ _, VK.val rfl rfl⟩
  · intro ys done W aa hE hn hF hD hZ hG hO
    replace hE : Below w5.heap.size w5 W := hE
    have v23 := (hF 23 (by decide) (hD 23 (by kernel_rfl))).eq rfl
    have g23 := hG 23 91 rfl (Nat.le_of_ble_eq_true rfl)
    rw [v23] at g23
    refine BigFrame.wpList_want (by simp [Region.wanted, yielded, g23]) ?_
    intro K hK
    have o5 := hO 5 (by kernel_rfl)
    replace o5 : aa.tmps[5]? = some (.slice (some ⟨gf, 0, none⟩) 5 5) := o5
    go_wp2_with fail
    first | exact ⟨_, rfl, Below.refl _ _, VK.val rfl rfl, trivial⟩ | exact ⟨_, rfl, Below.refl _ _, VK.val rfl rfl⟩
  · intro ys done W aa hE hn hF hD hZ hG hO
    replace hE : Below w5.heap.size w5 W := hE
    have v23 := (hF 23 (by decide) (hD 23 (by kernel_rfl))).eq rfl
    have g23 := hG 23 91 rfl (Nat.le_of_ble_eq_true rfl)
    rw [v23] at g23
    refine BigFrame.wpList_want (by simp [Region.wanted, yielded, g23]) ?_
    intro K hK
    have v24 := (hF 24 (by decide) (hD 24 (by kernel_rfl))).eq rfl
    have g24 := hG 24 92 rfl (Nat.le_of_ble_eq_true rfl)
    rw [v24] at g24
    go_wp2_with fail
    first | exact ⟨_, rfl, Below.refl _ _, VK.val rfl rfl, trivial⟩ | exact ⟨_, rfl, Below.refl _ _, VK.val rfl rfl⟩
  · intro ys done W aa hE hn hF hD hZ hG hO
    replace hE : Below w5.heap.size w5 W := hE
    have v23 := (hF 23 (by decide) (hD 23 (by kernel_rfl))).eq rfl
    have g23 := hG 23 91 rfl (Nat.le_of_ble_eq_true rfl)
    rw [v23] at g23
    refine BigFrame.wpList_want (by simp [Region.wanted, yielded, g23]) ?_
    intro K hK
    have o4 := hO 4 (by kernel_rfl)
    replace o4 : aa.tmps[4]? = some (.slice (some ⟨gl, 0, none⟩) 2 2) := o4
    go_wp2_with fail
    first | exact ⟨_, rfl, Below.refl _ _, VK.val rfl rfl, trivial⟩ | exact ⟨_, rfl, Below.refl _ _, VK.val rfl rfl⟩
  · intro ys done W aa hE hn hF hD hZ hG hO
    replace hE : Below w5.heap.size w5 W := hE
    have v23 := (hF 23 (by decide) (hD 23 (by kernel_rfl))).eq rfl
    have g23 := hG 23 91 rfl (Nat.le_of_ble_eq_true rfl)
    rw [v23] at g23
    refine BigFrame.wpList_want (by simp [Region.wanted, yielded, g23]) ?_
    intro K hK
    have v26 := (hF 26 (by decide) (hD 26 (by kernel_rfl))).eq rfl
    have g26 := hG 26 94 rfl (Nat.le_of_ble_eq_true rfl)
    rw [v26] at g26
    go_wp2_with fail
    first | exact ⟨_, rfl, (Below.refl _ _).alloc (Nat.le_refl _) _, VK.of rfl ⟨_, rfl, At.new _ _ _⟩, trivial⟩ | exact ⟨_, rfl, (Below.refl _ _).alloc (Nat.le_refl _) _, VK.of rfl ⟨_, rfl, At.new _ _ _⟩⟩
  · intro ys done W aa hE hn hF hD hZ hG hO
    replace hE : Below w5.heap.size w5 W := hE
    have v23 := (hF 23 (by decide) (hD 23 (by kernel_rfl))).eq rfl
    have g23 := hG 23 91 rfl (Nat.le_of_ble_eq_true rfl)
    rw [v23] at g23
    refine BigFrame.wpList_want (by simp [Region.wanted, yielded, g23]) ?_
    intro K hK
    have o3 := hO 3 (by kernel_rfl)
    replace o3 : aa.tmps[3]? = some (.slice (some ⟨gt, 0, none⟩) 3 3) := o3
    go_wp2_with fail
    first | exact ⟨_, rfl, Below.refl _ _, VK.val rfl rfl, trivial⟩ | exact ⟨_, rfl, Below.refl _ _, VK.val rfl rfl⟩
  · intro ys done W aa hE hn hF hD hZ hG hO
    replace hE : Below w5.heap.size w5 W := hE
    have v23 := (hF 23 (by decide) (hD 23 (by kernel_rfl))).eq rfl
    have g23 := hG 23 91 rfl (Nat.le_of_ble_eq_true rfl)
    rw [v23] at g23
    refine BigFrame.wpList_want (by simp [Region.wanted, yielded, g23]) ?_
    intro K hK
    have v25 := (hF 25 (by decide) (hD 25 (by kernel_rfl))).eq rfl
    have g25 := hG 25 93 rfl (Nat.le_of_ble_eq_true rfl)
    rw [v25] at g25
    have v27 := (hF 27 (by decide) (hD 27 (by kernel_rfl))).get rfl
    have g27 := hG 27 95 rfl (Nat.le_of_ble_eq_true rfl)
    have v28 := (hF 28 (by decide) (hD 28 (by kernel_rfl))).eq rfl
    have g28 := hG 28 96 rfl (Nat.le_of_ble_eq_true rfl)
    rw [v28] at g28
    obtain ⟨gm, em, hAm⟩ := v27
    rw [em] at g27
    have hKW := hK5.out.on hE
    go_wp2_with fail
    refine (kb_any hKW 1 (by decide) (oneR hAm hKW.stops) (by decide) k_b8).mono ?_
    rintro e W' ⟨rfl, hb'⟩
    replace hb' := Lib.hid hb'
    go_wp2_with fail
    first | exact ⟨_, rfl, hb'.out, VK.val rfl rfl, trivial⟩ | exact ⟨_, rfl, hb'.out, VK.val rfl rfl⟩
  · intro ys done W aa hE hn hF hD hZ hG hO
    replace hE : Below w5.heap.size w5 W := hE
    have v23 := (hF 23 (by decide) (hD 23 (by kernel_rfl))).eq rfl
    have g23 := hG 23 91 rfl (Nat.le_of_ble_eq_true rfl)
    rw [v23] at g23
    refine BigFrame.wpList_want (by simp [Region.wanted, yielded, g23]) ?_
    intro K hK
    have v29 := (hF 29 (by decide) (hD 29 (by kernel_rfl))).eq rfl
    have g29 := hG 29 97 rfl (Nat.le_of_ble_eq_true rfl)
    rw [v29] at g29
    go_wp2_with fail
    first | exact ⟨_, rfl, Below.refl _ _, VK.val rfl rfl, trivial⟩ | exact ⟨_, rfl, Below.refl _ _, VK.val rfl rfl⟩
  · intro ys done W aa hE hn hF hD hZ hG hO
    replace hE : Below w5.heap.size w5 W := hE
    have v23 := (hF 23 (by decide) (hD 23 (by kernel_rfl))).eq rfl
    have g23 := hG 23 91 rfl (Nat.le_of_ble_eq_true rfl)
    rw [v23] at g23
    have v30 := (hF 30 (by decide) (hD 30 (by kernel_rfl))).eq rfl
    have g30 := hG 30 98 rfl (Nat.le_of_ble_eq_true rfl)
    rw [v30] at g30
    go_wp2_with fail
    first | exact ⟨_, rfl, Below.refl _ _, VK.val rfl rfl, trivial⟩ | exact ⟨_, rfl, Below.refl _ _, VK.val rfl rfl⟩
 case hQA =>
  intro ys w6 hE hF _
  replace hE : Below w5.heap.size w5 w6 := hE
  have v31 := (hF 31 (by decide)).eq rfl
  simp only [List.take_succ_cons, List.take_zero, List.drop_succ_cons, List.drop_zero, Sched.fill, v31]
  clear hF v31 
  go_simp
  have hK6 := Lib.hid (hK5.out.on hE)
  have hB6 := Lib.hid (hB5.out.trans (hE.mono hs5))
  have hs6 : q ≤ w6.heap.size := Nat.le_trans hs5 hE.size
  clear hE hK5 hB5 hs5
  go_wp2_with fail
  have hKx := hK6.out.on ((Below.refl w6.heap.size w6).alloc (Nat.le_refl _) (.cells #[.slice (some ⟨gl, 0, none⟩) 2 2] 48))
  refine (kl_any hKx (oneR (At.new _ _ _) hKx.stops) (.inl rfl) k_l1).mono ?_
  clear hKx
  rintro e w7 ⟨rfl, hby⟩
  have hbx : Below w6.heap.size w6 w7 := ((Below.refl w6.heap.size w6).alloc (Nat.le_refl _) (.cells #[.slice (some ⟨gl, 0, none⟩) 2 2] 48)).trans (hby.mono (by simp))
  have hK7 := Lib.hid (hK6.out.on hbx)
  have hB7 := Lib.hid (hB6.out.trans (hbx.mono hs6))
  have hs7 : q ≤ w7.heap.size := Nat.le_trans hs6 hbx.size
  clear hby hbx hK6 hB6 hs6
  go_upto_region 9 with fail
  refine Sched.wp_region_sched 15 (fun W W' => Below W.heap.size W W') (VK [.val (.slice (some ⟨gf, 0, none⟩) 5 5), .val (.slice (some ⟨gf, 0, none⟩) 1 5), .val (.slice (some ⟨gl, 0, none⟩) 2 2), .val (.slice (some ⟨gl, 0, none⟩) 1 2), .of (fun v w => ∃ g : Nat, v = .slice (some ⟨g, 0, none⟩) 1 1 ∧ At w g 48 #[.slice (some ⟨gl, 0, none⟩) 1 2]) (fun ⟨g, e, h⟩ hb => ⟨g, e, h.keep hb h.inside⟩), .val (.slice (some ⟨gt, 0, none⟩) 3 3), .val (.tuple #[.int .i64 0, .int .i64 0, .int .i64 0, .bool false]), .val (.tuple #[.int .i64 0, .int .i64 0, .int .i64 0, .bool false]), .val (.int .i64 0), .val (.int .i64 0), .val (.int .i64 0), .val (.bool false), .val (.int .i64 0), .val (.int .i64 0), .val (.int .i64 0)]) (fun _ _ _ => True) (by kernel_rfl) (by kernel_rfl) (by kernel_rfl) (fun h1 h2 => belowTr h1 h2) (fun h1 h2 => VK.keep h1 h2) (Below.refl _ _).drew (fun _ => trivial) (Sched.StepsA.steps (by kernel_rfl) ?hSB) ?hQB
  case hSB =>
   simp only [List.take_succ_cons, List.take_zero]
   refine ⟨?_, ?_, ?_, ?_, ?_, ?_, ?_, ?_, ?_, ?_, ?_, ?_, ?_, ?_, ?_, trivial⟩
   · intro ys done W aa hE hn hF hD hZ hG hO
     replace hE : Below w7.heap.size w7 W := hE
     have o5 := hO 5 (by kernel_rfl)
     replace o5 : aa.tmps[5]? = some (.slice (some ⟨gf, 0, none⟩) 5 5) := o5
     go_wp2_with fail
     first | exact ⟨_, rfl, Below.refl _ _, VK.val rfl rfl, trivial⟩ | exact ⟨_, rfl, Below.refl _ _, VK.val rfl rfl⟩
   · intro ys done W aa hE hn hF hD hZ hG hO
     replace hE : Below w7.heap.size w7 W := hE
     have v0 := (hF 0 (by decide) (hD 0 (by kernel_rfl))).eq rfl
     have g0 := hG 0 112 rfl (Nat.le_of_ble_eq_true rfl)
     rw [v0] at g0
     go_wp2_with fail
     first | exact ⟨_, rfl, Below.refl _ _, VK.val rfl rfl, trivial⟩ | exact ⟨_, rfl, Below.refl _ _, VK.val rfl rfl⟩
   · intro ys done W aa hE hn hF hD hZ hG hO
     replace hE : Below w7.heap.size w7 W := hE
     have o4 := hO 4 (by kernel_rfl)
     replace o4 : aa.tmps[4]? = some (.slice (some ⟨gl, 0, none⟩) 2 2) := o4
     go_wp2_with fail
     first | exact ⟨_, rfl, Below.refl _ _, VK.val rfl rfl, trivial⟩ | exact ⟨_, rfl, Below.refl _ _, VK.val rfl rfl⟩
   · intro ys done W aa hE hn hF hD hZ hG hO
     replace hE : Below w7.heap.size w7 W := hE
     have v2 := (hF 2 (by decide) (hD 2 (by kernel_rfl))).eq rfl
     have g2 := hG 2 114 rfl (Nat.le_of_ble_eq_true rfl)
     rw [v2] at g2
     go_wp2_with fail
     first | exact ⟨_, rfl, Below.refl _ _, VK.val rfl rfl, trivial⟩ | exact ⟨_, rfl, Below.refl _ _, VK.val rfl rfl⟩
   · intro ys done W aa hE hn hF hD hZ hG hO
     replace hE : Below w7.heap.size w7 W := hE
     have v3 := (hF 3 (by decide) (hD 3 (by kernel_rfl))).eq rfl
     have g3 := hG 3 115 rfl (Nat.le_of_ble_eq_true rfl)
     rw [v3] at g3
     go_wp2_with fail
     first | exact ⟨_, rfl, (Below.refl _ _).alloc (Nat.le_refl _) _, VK.of rfl ⟨_, rfl, At.new _ _ _⟩, trivial⟩ | exact ⟨_, rfl, (Below.refl _ _).alloc (Nat.le_refl _) _, VK.of rfl ⟨_, rfl, At.new _ _ _⟩⟩
   · intro ys done W aa hE hn hF hD hZ hG hO
     replace hE : Below w7.heap.size w7 W := hE
     have o3 := hO 3 (by kernel_rfl)
     replace o3 : aa.tmps[3]? = some (.slice (some ⟨gt, 0, none⟩) 3 3) := o3
     go_wp2_with fail
     first | exact ⟨_, rfl, Below.refl _ _, VK.val rfl rfl, trivial⟩ | exact ⟨_, rfl, Below.refl _ _, VK.val rfl rfl⟩
   · intro ys done W aa hE hn hF hD hZ hG hO
     replace hE : Below w7.heap.size w7 W := hE
     have v1 := (hF 1 (by decide) (hD 1 (by kernel_rfl))).eq rfl
     have g1 := hG 1 113 rfl (Nat.le_of_ble_eq_true rfl)
     rw [v1] at g1
     have v4 := (hF 4 (by decide) (hD 4 (by kernel_rfl))).get rfl
     have g4 := hG 4 116 rfl (Nat.le_of_ble_eq_true rfl)
     have v5 := (hF 5 (by decide) (hD 5 (by kernel_rfl))).eq rfl
     have g5 := hG 5 117 rfl (Nat.le_of_ble_eq_true rfl)
     rw [v5] at g5
     obtain ⟨gm, em, hAm⟩ := v4
     rw [em] at g4
     have hKW := hK7.out.on hE
     go_wp2_with fail
     refine (kl_any hKW (oneR hAm hKW.stop1) (.inr rfl) k_l2).mono ?_
     rintro e W' ⟨rfl, hb'⟩
     replace hb' := Lib.hid hb'
     go_wp2_with fail
     first | exact ⟨_, rfl, hb'.out, VK.val rfl rfl, trivial⟩ | exact ⟨_, rfl, hb'.out, VK.val rfl rfl⟩
   · intro ys done W aa hE hn hF hD hZ hG hO
     replace hE : Below w7.heap.size w7 W := hE
     have v6 := (hF 6 (by decide) (hD 6 (by kernel_rfl))).eq rfl
     have g6 := hG 6 118 rfl (Nat.le_of_ble_eq_true rfl)
     rw [v6] at g6
     go_wp2_with fail
     first | exact ⟨_, rfl, Below.refl _ _, VK.val rfl rfl, trivial⟩ | exact ⟨_, rfl, Below.refl _ _, VK.val rfl rfl⟩
   · intro ys done W aa hE hn hF hD hZ hG hO
     replace hE : Below w7.heap.size w7 W := hE
     have v7 := (hF 7 (by decide) (hD 7 (by kernel_rfl))).eq rfl
     have g7 := hG 7 111 rfl (Nat.le_of_ble_eq_true rfl)
     rw [v7] at g7
     go_wp2_with fail
     first | exact ⟨_, rfl, Below.refl _ _, VK.val rfl rfl, trivial⟩ | exact ⟨_, rfl, Below.refl _ _, VK.val rfl rfl⟩
   · intro ys done W aa hE hn hF hD hZ hG hO
     replace hE : Below w7.heap.size w7 W := hE
     have v7 := (hF 7 (by decide) (hD 7 (by kernel_rfl))).eq rfl
     have g7 := hG 7 111 rfl (Nat.le_of_ble_eq_true rfl)
     rw [v7] at g7
     go_wp2_with fail
     first | exact ⟨_, rfl, Below.refl _ _, VK.val rfl rfl, trivial⟩ | exact ⟨_, rfl, Below.refl _ _, VK.val rfl rfl⟩
   · intro ys done W aa hE hn hF hD hZ hG hO
     replace hE : Below w7.heap.size w7 W := hE
     have v7 := (hF 7 (by decide) (hD 7 (by kernel_rfl))).eq rfl
     have g7 := hG 7 111 rfl (Nat.le_of_ble_eq_true rfl)
     rw [v7] at g7
     go_wp2_with fail
     first | exact ⟨_, rfl, Below.refl _ _, VK.val rfl rfl, trivial⟩ | exact ⟨_, rfl, Below.refl _ _, VK.val rfl rfl⟩
   · intro ys done W aa hE hn hF hD hZ hG hO
     replace hE : Below w7.heap.size w7 W := hE
     have v7 := (hF 7 (by decide) (hD 7 (by kernel_rfl))).eq rfl
     have g7 := hG 7 111 rfl (Nat.le_of_ble_eq_true rfl)
     rw [v7] at g7
     go_wp2_with fail
     first | exact ⟨_, rfl, Below.refl _ _, VK.val rfl rfl, trivial⟩ | exact ⟨_, rfl, Below.refl _ _, VK.val rfl rfl⟩
   · intro ys done W aa hE hn hF hD hZ hG hO
     replace hE : Below w7.heap.size w7 W := hE
     have v8 := (hF 8 (by decide) (hD 8 (by kernel_rfl))).eq rfl
     have g8 := hG 8 119 rfl (Nat.le_of_ble_eq_true rfl)
     rw [v8] at g8
     go_wp2_with fail
     first | exact ⟨_, rfl, Below.refl _ _, VK.val rfl rfl, trivial⟩ | exact ⟨_, rfl, Below.refl _ _, VK.val rfl rfl⟩
   · intro ys done W aa hE hn hF hD hZ hG hO
     replace hE : Below w7.heap.size w7 W := hE
     have v9 := (hF 9 (by decide) (hD 9 (by kernel_rfl))).eq rfl
     have g9 := hG 9 120 rfl (Nat.le_of_ble_eq_true rfl)
     rw [v9] at g9
     go_wp2_with fail
     first | exact ⟨_, rfl, Below.refl _ _, VK.val rfl rfl, trivial⟩ | exact ⟨_, rfl, Below.refl _ _, VK.val rfl rfl⟩
   · intro ys done W aa hE hn hF hD hZ hG hO
     replace hE : Below w7.heap.size w7 W := hE
     have v10 := (hF 10 (by decide) (hD 10 (by kernel_rfl))).eq rfl
     have g10 := hG 10 121 rfl (Nat.le_of_ble_eq_true rfl)
     rw [v10] at g10
     go_wp2_with fail
     first | exact ⟨_, rfl, Below.refl _ _, VK.val rfl rfl, trivial⟩ | exact ⟨_, rfl, Below.refl _ _, VK.val rfl rfl⟩
  case hQB =>
   intro ys w8 hE hF _
   replace hE : Below w7.heap.size w7 w8 := hE
   have v11 := (hF 11 (by decide)).eq rfl
   simp only [List.take_succ_cons, List.take_zero, List.drop_succ_cons, List.drop_zero, Sched.fill, v11]
   clear hF v11 
   go_simp
   have hK8 := Lib.hid (hK7.out.on hE)
   have hB8 := Lib.hid (hB7.out.trans (hE.mono hs7))
   have hs8 : q ≤ w8.heap.size := Nat.le_trans hs7 hE.size
   clear hE hK7 hB7 hs7
   have hC := works_any w8 hK8.out.sg
   go_wp2_with fail
   refine hC.mono ?_
   clear hC
   rintro e w9 ⟨rfl, hb9⟩
   have hB9 := Lib.hid (hB8.out.trans (hb9.mono hs8))
   have hC := nil_bid 0 w9
   clear hb9
   go_wp2_with fail
   refine hC.mono ?_
   clear hC
   rintro e wz ⟨rfl, rfl⟩
   go_wp2
   go_ret
   exact ⟨rfl, by rw [hq'.out]; exact hB9.out⟩
end Go.Proofs.YteclpblfleakhaaDoor.Price
/-
  PriceKnown, the chapter's examples, no vehicles, too many, too few routes, a request in two routes, a plan that is none, returns true (a closed statement). Its condition: package load's variable signs, package cheap's variable none and package price's variable none are as the program's text lays them when the call begins, which the card ties to that text.
-/
namespace Go.Proofs.YteclpblfleakhaaDoor.priceKnown
open Go.ChangeShapes Go.WideShapes Go.ChangeAt Go.RowKit Go.Sort
open Go.Proofs.YteclpblfleakhaaDoor.Laid Go.Proofs.YteclpblfleakhaaDoor.When Go.Proofs.YteclpblfleakhaaDoor.Plan Go.Proofs.YteclpblfleakhaaDoor.Price
set_option linter.unusedVariables false
set_option maxRecDepth 100000 in
theorem lifted (os : Os) (started : os.Started) (H : Type) (enc : TypeId × Value → H) :
 ReturnsInHanded {} Tryd.checked os 6 .any (fun w args => (Rows.priceKnownSpec.pre enc Tryd.prog Tryd.f6 [] false w args ∧ laidMetH Tryd.prog Rows.priceKnownRow.laid w) ∧ sizedMet enc Tryd.prog Tryd.f6 (OpenSpec.ofChange Rows.priceKnownSpec) false w args)
  (Rows.priceKnownSpec.post enc Tryd.prog Tryd.f6 false true false false) := by
 refine returnsInHanded_of_change_and (C := Tryd.checked) (X := fun w _ => laidMetH Tryd.prog Rows.priceKnownRow.laid w) (fun _ _ _ hh h => h.of_heap hh) own started (by kernel_rfl) Tryd.func6
  (ChangeSpec.witness_shaped (enc := enc) (C := Tryd.checked) (os := os) (X := fun w _ => laidMetH Tryd.prog Rows.priceKnownRow.laid w) false (World.doorLaid Tryd.prog 400 os) #[] 8 rfl (World.shaped_of_RefB (by kernel_rfl) (by kernel_rfl)) (by kernel_rfl) (by kernel_rfl) (by kernel_rfl) (door_met os _)) ?_
 intro W base args ds gs before hval0 hW _ _ hL _
 have hval : ∀ (j : Nat) t v, Tryd.f6.params[j]? = some t → args[j]? = some v → Value.okWide Tryd.prog W .any base t v := hval0
 have hW' := hW
 obtain ⟨p, q, hA0, hV, rfl, hfz, hnd⟩ := hW
 have hA : DataW.TrodAll enc Tryd.prog W 0 (fun _ => true) true Tryd.f6.params.toList args.toList ds p := hA0
 rw [Tryd.params6] at hA
 obtain ⟨rfl, rfl, rfl⟩ := trodAll_none hA
 obtain ⟨rfl, rfl⟩ := trodVars_none hV
 exact (known_walk W (sg_of_laid hL)).mono fun e W' ⟨he, hb⟩ => ⟨_, he, Close.law_post laidOut (by kernel_rfl) rfl (by kernel_rfl) Tryd.underlying4 hW' rfl hb⟩
theorem over : Rows.PriceKnownSaid :=
 OpenClaim.holds_of_wide 6 Tryd.f6 rfl rfl rfl rfl rfl rfl rfl ⟨rfl, rfl, rfl, rfl, rfl⟩ rfl rfl rfl rfl rfl (by kernel_rfl) Tryd.func6 (by kernel_rfl)
  (of_decide_eq_true (by kernel_rfl)) (by unfold Func.isWrapper; first | (rw [if_pos (by decide +kernel)]; kernel_rfl) | (rw [if_neg (by decide +kernel)]; exact ⟨rfl, rfl⟩))
  (fun os started H enc _ => lifted os started H enc)
theorem proved : Rows.PriceKnownCardSaid :=
 Claim7.holds_tied_plain_at .later [] [.data, .data, .data] true (true, "1ca01e46e6a1680efaf2cd5a721b3d3d0c579c25cc0efc216c20249d2f05a4d0") false
  over (fun _ h => by cases h) (by kernel_rfl) (fun _ h => by cases h) priceKnown_row_tie rfl ⟨rfl, rfl⟩ (by kernel_rfl) rfl
  (fun f fn hf hfn => by
   obtain rfl : f = 6 := Option.some.inj ((show Tryd.prog.funcNamed "consign/consignlaw14.PriceKnown" = some 6 by kernel_rfl).symm.trans hf) |>.symm
   obtain rfl : fn = Tryd.f6 := (Option.some.inj (Tryd.func6.symm.trans hfn)).symm
   exact ⟨by kernel_rfl, fun j t ht => by
    rw [Tryd.params6] at ht
    simp at ht⟩)
  (by kernel_rfl)
#print axioms proved
end Go.Proofs.YteclpblfleakhaaDoor.priceKnown

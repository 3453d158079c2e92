import Derived.Test.YteclpblfleakhaaGreatDoorPkPriceBrute
import Derived.Test.YteclpblfleakhaaGreatDoorPkPriceAsk

namespace Go.Proofs.YteclpblfleakhaaGreatDoor.Price
open Go.RowKit Go.Sort Go.Shelf Go.Proofs.YteclpblfleakhaaGreatDoor.Mem Go.Proofs.YteclpblfleakhaaGreatDoor.Route Go.Proofs.YteclpblfleakhaaGreatDoor.When Go.Proofs.YteclpblfleakhaaGreatDoor.Load Go.Proofs.YteclpblfleakhaaGreatDoor.Feas Go.Proofs.YteclpblfleakhaaGreatDoor.Ins Go.Proofs.YteclpblfleakhaaGreatDoor.Cheap Go.Proofs.YteclpblfleakhaaGreatDoor.Plan Go.Proofs.YteclpblfleakhaaGreatDoor.Up
set_option linter.unusedVariables false
attribute [local go_sem] Oper.semAt_some
attribute [local go_sem] Feas.run_store_fn
theorem least_snoc (xs : List (Int × Wy)) (y : Int × Wy) : leastQ (xs ++ [y]) = some (match leastQ xs with | none => y | some a => lessQ a y) := by
 rw [least_append]
 cases leastQ xs <;> rfl
theorem inK_pos {S : St} {r : Int} {k : Nat} {v : Vh} {l pre : List (Int × Int)} {y : Int × Wy} (h : y ∈ inK S r k v l pre) : 0 ≤ y.1 := by
 unfold inK at h
 rcases List.mem_append.1 h with h | h
 · obtain ⟨i, _, _, _, e, _⟩ := waysA_mem h
   rw [e]; omega
 · obtain ⟨z, _, rfl⟩ := List.mem_map.1 h
   show (0 : Int) ≤ (k : Int)
   omega
def lessB (a : Int × Wy) (n : Int) : Bool := (decide (a.1 = -1) && (decide (a.2.i = 0) && (decide (a.2.j = 0) && decide (a.2.n = 0)))) || decide (n < a.2.n)
theorem best_yes {S : St} {r : Int} {k : Nat} {v : Vh} {l pre : List (Int × Int)} {y : Int × Wy} (h : lessB (bestB (leastQ (inK S r k v l pre))) y.2.n = true) : bestB (leastQ (inK S r k v l pre ++ [y])) = y := by
 rw [least_snoc]
 cases hl : leastQ (inK S r k v l pre) with
 | none => rfl
 | some a =>
  rw [hl] at h
  have hp := inK_pos (leastQ_mem hl)
  unfold lessB bestB at h
  have h1 : decide (a.1 = -1) = false := by simp; omega
  rw [h1, Bool.false_and, Bool.false_or, decide_eq_true_eq] at h
  exact lessQ_lt h
theorem best_no {S : St} {r : Int} {k : Nat} {v : Vh} {l pre : List (Int × Int)} {y : Int × Wy} (h : lessB (bestB (leastQ (inK S r k v l pre))) y.2.n = false) : bestB (leastQ (inK S r k v l pre ++ [y])) = bestB (leastQ (inK S r k v l pre)) := by
 rw [least_snoc]
 cases hl : leastQ (inK S r k v l pre) with
 | none => rw [hl] at h; simp [lessB, bestB] at h
 | some a =>
  rw [hl] at h
  unfold lessB bestB at h
  rw [Bool.or_eq_false_iff] at h
  exact lessQ_ge (by simpa using h.2)
theorem with_rise {v : Vh} {l : List (Int × Int)} {t : List Rq} {r i j : Int} (hd : Feas.Dr v l t) (hr : inT t r = true) : (withB v l t r i j = true ↔ riseE v l t r i j = 0) := by
 unfold withB
 cases hm : mayW l r i j
 · exact ⟨fun h => (by simp at h), fun h => absurd h (rise_no hm)⟩
 · rw [Bool.true_and, rise_ok hd hm hr]
   unfold okF
   exact decide_eq_true_iff
theorem with_val {v : Vh} {l : List (Int × Int)} {t : List Rq} {r i j : Int} (hb : withB v l t r i j = true) (hz : riseE v l t r i j = 0) : withN v l t r i j - homeT v l t = riseV v l t r i j := by
 unfold withN
 rw [if_pos hb, riseV_ok hz]
theorem withN_bd (v : Vh) (l : List (Int × Int)) (t : List Rq) (r i j : Int) : 0 ≤ withN v l t r i j ∧ withN v l t r i j ≤ 3000000 := by
 unfold withN
 split
 · exact homeT_bd _ _ _
 · omega
structure CheM (w : World) (q b : Nat) (vt vf vr : Value) (r : Int) (a : Int × Wy) (W : World) : Prop where
 ht : At W q 37 #[vt]
 hq : At W (q + 1) 3 #[.int .i64 r]
 res : At W (q + 2) 90 #[.int .i64 0, .int .i64 0, .int .i64 0, .int .i64 0]
 best : At W b 90 (encQ a)
 less : At W (b + 1) 106 #[.func (.func 39) #[] #[.pointer (some ⟨b, 0, none⟩)]]
 hf : At W (b + 2) 35 #[vf]
 hr : At W (b + 3) 36 #[vr]
 below : Below q w W
section
variable {w : World} {q b : Nat} {vt vf vr : Value} {r : Int} {a : Int × Wy} {W W' : World}
theorem CheM.inside (h : CheM w q b vt vf vr r a W) : b + 4 ≤ W.heap.size := h.hr.inside
theorem CheM.on (h : CheM w q b vt vf vr r a W) (hb : Below W.heap.size W W') : CheM w q b vt vf vr r a W' :=
 ⟨h.ht.keep hb h.ht.inside, h.hq.keep hb h.hq.inside, h.res.keep hb h.res.inside, h.best.keep hb h.best.inside, h.less.keep hb h.less.inside, h.hf.keep hb h.hf.inside, h.hr.keep hb h.hr.inside, h.below.trans (hb.mono (Nat.le_of_lt h.ht.inside))⟩
theorem CheM.old (hq : q ≤ b) : ∀ (W W' : World) row, CheM w q b vt vf vr r a W → W.grownBy W' row → (∀ k, row = some k → b + 4 ≤ k ∧ ∃ o, W.heap[k]? = some o ∧ o.isCells = false) → CheM w q b vt vf vr r a W' := by
 intro A A' row h hg hr
 exact ⟨At.oldCells h.ht hg hr, At.oldCells h.hq hg hr, At.oldCells h.res hg hr, At.oldCells h.best hg hr, At.oldCells h.less hg hr, At.oldCells h.hf hg hr, At.oldCells h.hr hg hr, h.below.grown hg (Nat.le_of_lt h.ht.inside) (fun k e => by have := (hr k e).1; omega)⟩
theorem CheM.put (h : CheM w q b vt vf vr r a W) (hqb : q + 3 ≤ b) (a' : Int × Wy) : CheM w q b vt vf vr r a' ((((W.setCell ⟨b, 0, none⟩ (.int .i64 a'.1)).setCell ⟨b, 1, none⟩ (.int .i64 a'.2.i)).setCell ⟨b, 2, none⟩ (.int .i64 a'.2.j)).setCell ⟨b, 3, none⟩ (.int .i64 a'.2.n)) :=
 ⟨(((h.ht.far (by omega) _ _).far (by omega) _ _).far (by omega) _ _).far (by omega) _ _, (((h.hq.far (by omega) _ _).far (by omega) _ _).far (by omega) _ _).far (by omega) _ _, (((h.res.far (by omega) _ _).far (by omega) _ _).far (by omega) _ _).far (by omega) _ _, by exact put_w4 h.best,
  (((h.less.far (by omega) _ _).far (by omega) _ _).far (by omega) _ _).far (by omega) _ _, (((h.hf.far (by omega) _ _).far (by omega) _ _).far (by omega) _ _).far (by omega) _ _, (((h.hr.far (by omega) _ _).far (by omega) _ _).far (by omega) _ _).far (by omega) _ _,
  (((h.below.setCell (by simp; omega) _).setCell (by simp; omega) _).setCell (by simp; omega) _).setCell (by simp; omega) _⟩
end
def CheI (S : St) (w : World) (q b : Nat) (vt vf vr : Value) (r : Int) (pre : List (Nat × Vh × Value)) (W : World) : Prop := CheM w q b vt vf vr r (bestB (leastQ (waysA S r pre.length))) W
theorem CheI.old {S : St} {w : World} {q b : Nat} {vt vf vr : Value} {r : Int} (hq : q ≤ b) : Old (b + 4) (CheI S w q b vt vf vr r) := fun pre A A' row h hg hr => CheM.old hq A A' row h hg hr
structure PlcI (S : St) (w : World) (q b : Nat) (vt vf vr : Value) (r : Int) (K : Nat) (v : Vh) (u : Value) (l : List (Int × Int)) (zk zw zn N : Nat) (H : Int) (V : World) (pre : List (Int × Int)) (W : World) : Prop where
 m : CheM w q b vt vf vr r (bestB (leastQ (inK S r K v l pre))) W
 hk : At W zk 3 #[.int .i64 K]
 ho : At W (zk + 1) 111 #[.int .i64 v.hx, .int .i64 v.hy, .int .i64 v.cp, .int .i64 v.st, .int .i64 v.en, u]
 hw : At W zw 3 #[.int .i64 H]
 hn : At W zn 3 #[.int .i64 N]
 held : Held (b + 4) V W
theorem PlcI.old {S : St} {w : World} {q b : Nat} {vt vf vr : Value} {r : Int} {K : Nat} {v : Vh} {u : Value} {l : List (Int × Int)} {zk zw zn N B : Nat} {H : Int} {V : World} (hq : q ≤ b) (hB : b + 6 ≤ B) (hV : b + 5 < V.heap.size) : Old B (PlcI S w q b vt vf vr r K v u l zk zw zn N H V) := by
 rintro pre A A' row ⟨h1, h2, h3, h4, h5, h6⟩ hg hr
 have hs : V.heap.size ≤ A.heap.size := h6.size
 exact ⟨CheM.old hq A A' row h1 hg (fun k e => ⟨by have := (hr k e).1; omega, (hr k e).2⟩), At.oldCells h2 hg hr, At.oldCells h3 hg hr, At.oldCells h4 hg hr, At.oldCells h5 hg hr, Nat.le_trans h6.size hg.size,
  (hg.block _ (by omega) (fun e => by have := (hr _ e.symm).1; omega)).trans h6.a, (hg.block _ (by omega) (fun e => by have := (hr _ e.symm).1; omega)).trans h6.b⟩
theorem PlcI.on {S : St} {w : World} {q b : Nat} {vt vf vr : Value} {r : Int} {K : Nat} {v : Vh} {u : Value} {l : List (Int × Int)} {zk zw zn N : Nat} {H : Int} {V W W' : World} {pre : List (Int × Int)} (h : PlcI S w q b vt vf vr r K v u l zk zw zn N H V pre W) (hb : Below W.heap.size W W') (hV : b + 5 < V.heap.size) : PlcI S w q b vt vf vr r K v u l zk zw zn N H V pre W' :=
 ⟨h.m.on hb, h.hk.keep hb h.hk.inside, h.ho.keep hb h.ho.inside, h.hw.keep hb h.hw.inside, h.hn.keep hb h.hn.inside, h.held.trans (held_below hb (by have := h.held.size; omega))⟩
theorem PlcI.as {S : St} {w : World} {q b : Nat} {vt vf vr : Value} {r : Int} {K : Nat} {v : Vh} {u : Value} {l : List (Int × Int)} {zk zw zn N : Nat} {H : Int} {V W : World} {pre pre' : List (Int × Int)} (h : PlcI S w q b vt vf vr r K v u l zk zw zn N H V pre W) (e : bestB (leastQ (inK S r K v l pre')) = bestB (leastQ (inK S r K v l pre))) : PlcI S w q b vt vf vr r K v u l zk zw zn N H V pre' W :=
 ⟨by rw [e]; exact h.m, h.hk, h.ho, h.hw, h.hn, h.held⟩
theorem PlcI.put {S : St} {w : World} {q b : Nat} {vt vf vr : Value} {r : Int} {K : Nat} {v : Vh} {u : Value} {l : List (Int × Int)} {zk zw zn N : Nat} {H : Int} {V W : World} {pre pre' : List (Int × Int)} (h : PlcI S w q b vt vf vr r K v u l zk zw zn N H V pre W) (hqb : q + 3 ≤ b) (h1 : b + 5 < zk) (h2 : b + 5 < zw) (h3 : b + 5 < zn) (a : Int × Wy) (e : bestB (leastQ (inK S r K v l pre')) = a) :
 PlcI S w q b vt vf vr r K v u l zk zw zn N H V pre' ((((W.setCell ⟨b, 0, none⟩ (.int .i64 a.1)).setCell ⟨b, 1, none⟩ (.int .i64 a.2.i)).setCell ⟨b, 2, none⟩ (.int .i64 a.2.j)).setCell ⟨b, 3, none⟩ (.int .i64 a.2.n)) :=
 ⟨by rw [e]; exact h.m.put hqb a, (((h.hk.far (by omega) _ _).far (by omega) _ _).far (by omega) _ _).far (by omega) _ _, (((h.ho.far (by omega) _ _).far (by omega) _ _).far (by omega) _ _).far (by omega) _ _, (((h.hw.far (by omega) _ _).far (by omega) _ _).far (by omega) _ _).far (by omega) _ _, (((h.hn.far (by omega) _ _).far (by omega) _ _).far (by omega) _ _).far (by omega) _ _,
  (((h.held.trans (Held.setCell _ (by omega) (by omega) _)).trans (Held.setCell _ (by omega) (by omega) _)).trans (Held.setCell _ (by omega) (by omega) _)).trans (Held.setCell _ (by omega) (by omega) _)⟩
theorem held1_below {n : Nat} {V W : World} (hb : Below V.heap.size V W) (hn : n < V.heap.size) : Held1 n V W := ⟨hb.size, hb.block n hn⟩
theorem grown_of {A B : World} (hb : Below A.heap.size A B) : A.grownBy B none := ⟨hb.os, hb.tape, hb.output, hb.size, fun k hk _ => hb.block k hk⟩
theorem _root_.Go.Proofs.YteclpblfleakhaaGreatDoor.Mem.At.put_off {W : World} {g n : Nat} {t : TypeId} {cs : Array Value} {o : Obj} (h : At W g t cs) (hn : g ≠ n) : At (W.putObj n o) g t cs := (World.putObj_heap_other hn).trans h
theorem res_pway {fn : Func} {p : Tmp} (h : fn.results = #[.cell p 90]) {tmps : Array Value} {w : World} {g : Nat} {x0 x1 x2 x3 : Value} (hp : tmps.getD p undef = .pointer (some ⟨g, 0, none⟩))
 (hA : At w g 90 #[x0, x1, x2, x3]) : (results fn tmps).run Tryz.prog w = .ok (.agg #[x0, x1, x2, x3]) w := by
 have hp' : tmps[p]?.getD undef = .pointer (some ⟨g, 0, none⟩) := by simpa using hp
 have c0 := hA.cell 0
 have c1 := hA.cell 1
 have c2 := hA.cell 2
 have c3 := hA.cell 3
 simp at c0 c1 c2 c3
 simp only [results, h]
 go_simp
set_option maxRecDepth 100000 in
set_option maxHeartbeats 16000000 in
theorem cheapest_any {vf vr vt : Value} (S : St) (r : Int) (w : World) (hsg : SgP' w) (hF : Vhs w.heap.size w vf S.vs) (hR : Rws w.heap.size w vr S.rows) (hT : Rqs w.heap.size w vt S.t) (hlen : ∀ l ∈ S.rows, l.length ≤ 100) (hnum : ∀ l ∈ S.rows, Nums l) (ht : S.t.length ≤ 1000) :
 Calls Tryz.prog 28 #[vf, vr, vt, .int .i64 r] w fun e w' => e = .returned (.agg (encQ (bestB (leastQ (waysS S r))))) ∧ Below w.heap.size w w' := by
 obtain ⟨us, hus1, hus2, hus3⟩ := id hR
 have hF0 := hF
 have hR0 := hR
 have hT0 := hT
 obtain ⟨xf, Nf, cf, rfl, hNf0, hfc1, hfc2, -⟩ := Vhs.opened hF
 obtain ⟨xr, Nr, cr, rfl, hNr0, hrc1, hrc2⟩ := Rws.opened hR
 obtain ⟨xt, Nt, ct, rfl, hNt0, htc1, htc2, -⟩ := Rqs.opened hT
 unfold maxLen at hfc2 hrc2 htc2
 obtain ⟨q, hq⟩ : ∃ q, w.heap.size = q := ⟨_, rfl⟩
 obtain ⟨w1, hw1⟩ : ∃ w1, ((w.alloc (.cells #[.slice xt Nt ct] 37)).alloc (.cells #[.int .i64 r] 3)).alloc (.cells #[.int .i64 0, .int .i64 0, .int .i64 0, .int .i64 0] 90) = w1 := ⟨_, rfl⟩
 have hs1 : w1.heap.size = q + 3 := by rw [← hw1]; simp [hq]
 have kt : At w1 q 37 #[.slice xt Nt ct] := by rw [← hw1]; exact ((At.new_ _ _ _ hq.symm).alloc _).alloc _
 have kq : At w1 (q + 1) 3 #[.int .i64 r] := by rw [← hw1]; exact (At.new_ _ _ _ (by simp [hq])).alloc _
 have kr : At w1 (q + 2) 90 #[.int .i64 0, .int .i64 0, .int .i64 0, .int .i64 0] := by rw [← hw1]; exact At.new_ _ _ _ (by simp [hq])
 have hbw : Below w.heap.size w w1 := by rw [← hw1]; exact (((Below.refl _ _).alloc (by omega) _).alloc (by simp) _).alloc (by simp; omega) _
 have hA := ask_any S r w1 (hF.on hbw) (hR.on hbw) (hT.on hbw) hlen hnum ht
 have hsg1 := Lib.hid (hsg.on hbw)
 rw [hq] at hF hR hT hus2 hus3 hbw ⊢
 have hgq : 0 < q := by have := hsg.pos; omega
 have hsg0 := Lib.hid hsg
 have hF' := Lib.hid hF
 have hR' := Lib.hid hR
 have hT' := Lib.hid hT
 have hlen' := Lib.hid hlen
 have hnum' := Lib.hid hnum
 have hNf := Lib.hid hNf0
 have hNr := Lib.hid hNr0
 have hu1 := Lib.hid hus1
 have hu2 := Lib.hid hus2
 have hu3 := Lib.hid hus3
 have t0 := kt.cell 0
 have q0 := kq.cell 0
 simp at t0 q0
 have hK1 := Lib.hid (And.intro kt (And.intro kq (And.intro kr hbw)))
 have hw1' := Lib.hid hw1
 have hq' := Lib.hid hq
 have hs1' := Lib.hid hs1
 have hqi : q + 2 < w1.heap.size := by omega
 obtain ⟨B9, hB9⟩ : ∃ B9, (mayS S && clearS S r) = B9 := ⟨_, rfl⟩
 rw [hB9] at hA
 have hB9' := Lib.hid hB9
 clear hF hR hT hF0 hR0 hT0 hlen hnum hNf0 hNr0 hNt0 hus1 hus2 hus3 kt kq kr hbw hw1 hq hs1 hB9 hsg
 refine (callsIn_wide (n := 3)).1 ?_
 refine callsIn_of_wp_marks Tryz.func28 rfl trivial ?_ rfl
 simp only [Tryz.ntmps28, List.size_toArray, List.length_cons, List.length_nil, Nat.reduceAdd, Nat.reduceSub, Array.replicate_succ, Array.replicate_zero, List.push_toArray, List.append_toArray, List.nil_append, List.cons_append]
 gi_upto_region 1 with fail
 try simp only [hq'.out]
 rw [hw1'.out]
 gi_wp2_with fail
 refine ⟨trivial, (callsIn_wide.2 hA).mono ?_⟩
 clear hA t0 q0
 rintro e w2 ⟨rfl, hb2⟩
 obtain ⟨kt, kq, kr, hbw⟩ := hK1.out
 have k2t := kt.keep hb2 kt.inside
 have k2q := kq.keep hb2 kq.inside
 have k2r := kr.keep hb2 kr.inside
 have hbw2 : Below q w w2 := hbw.trans (hb2.mono (by omega))
 have hsg2 := hsg1.out.on hb2
 obtain ⟨g0, g1, g2, g3⟩ := hsg2
 have hgi := SgP'.pos ⟨g0, g1, g2, g3⟩
 have hs2 : q + 3 ≤ w2.heap.size := by have := hb2.size; omega
 clear hb2 kt kq kr hbw hK1 hsg1
 cases B9
 · have hno : Hid (bestB (leastQ (waysS S r)) = (-1, ⟨0, 0, 0⟩)) := Lib.hid (by
    have : waysS S r = [] := by unfold waysS; rw [if_neg (by rw [hB9'.out]; simp)]
    rw [this]; rfl)
   have hfin := Lib.hid (show At ((((w2.setCell ⟨q + 2, 0, none⟩ (.int .i64 (-1))).setCell ⟨q + 2, 1, none⟩ (.int .i64 0)).setCell ⟨q + 2, 2, none⟩ (.int .i64 0)).setCell ⟨q + 2, 3, none⟩ (.int .i64 0)) (q + 2) 90 #[.int .i64 (-1), .int .i64 0, .int .i64 0, .int .i64 0] by exact put_w4 k2r)
   have hfb := Lib.hid (show Below q w ((((w2.setCell ⟨q + 2, 0, none⟩ (.int .i64 (-1))).setCell ⟨q + 2, 1, none⟩ (.int .i64 0)).setCell ⟨q + 2, 2, none⟩ (.int .i64 0)).setCell ⟨q + 2, 3, none⟩ (.int .i64 0)) from (((hbw2.setCell (by simp) _).setCell (by simp) _).setCell (by simp) _).setCell (by simp) _)
   have r0 := k2r.cell 0
   have r1 := k2r.cell 1
   have r2 := k2r.cell 2
   have r3 := k2r.cell 3
   have rf := k2r.free
   simp at r0 r1 r2 r3
   clear k2t k2q k2r hbw2
   gi_wp2
   exact ⟨_, res_pway rfl rfl hfin.out, by rw [hno.out]; rfl, hfb.out⟩
 have hmc : mayS S = true ∧ clearS S r = true := by have := hB9'.out; rwa [Bool.and_eq_true] at this
 have hws := Lib.hid (ways_yes hmc.1 hmc.2)
 obtain ⟨hc4, hrv, hokA0⟩ := mayS_iff.1 hmc.1
 have hokA : Hid (∀ (i : Nat) v l, S.vs[i]? = some v → S.rows[i]? = some l → okF v l S.t = true) := Lib.hid (fun i v l hv hl => (hokA0 i v l hv hl).1)
 have hinT : Hid (inT S.t r = true) := Lib.hid (by have := hmc.2; unfold clearS at this; rw [Bool.and_eq_true] at this; exact this.1)
 have hrI : Hid (I64 r) := Lib.hid (by have := inT_iff.1 hinT.out; exact ⟨by omega, by omega⟩)
 have hNN : Nr = Nf := by rw [← hNr.out, ← hNf.out]; exact hrv
 have hN4 : Nf ≤ 4 := by rw [← hNf.out]; exact hc4.2
 subst hNN
 clear hmc hc4 hrv hokA0 hB9'
 obtain ⟨b, hb⟩ : ∃ b, w2.heap.size = b := ⟨_, rfl⟩
 obtain ⟨w3, hw3⟩ : ∃ w3, (w2.alloc (.cells #[.int .i64 (-1), .int .i64 0, .int .i64 0, .int .i64 0] 90)).alloc (.cells #[.func (.func 39) #[] #[.pointer (some ⟨b, 0, none⟩)]] 106) = w3 := ⟨_, rfl⟩
 have hs3 : w3.heap.size = b + 2 := by rw [← hw3]; simp [hb]
 have k3b : At w3 b 90 #[.int .i64 (-1), .int .i64 0, .int .i64 0, .int .i64 0] := by rw [← hw3]; exact (At.new_ _ _ _ hb.symm).alloc _
 have k3l : At w3 (b + 1) 106 #[.func (.func 39) #[] #[.pointer (some ⟨b, 0, none⟩)]] := by rw [← hw3]; exact At.new_ _ _ _ (by simp [hb])
 have k3t : At w3 q 37 #[.slice xt Nt ct] := by rw [← hw3]; exact (k2t.alloc _).alloc _
 have k3q : At w3 (q + 1) 3 #[.int .i64 r] := by rw [← hw3]; exact (k2q.alloc _).alloc _
 have k3r : At w3 (q + 2) 90 #[.int .i64 0, .int .i64 0, .int .i64 0, .int .i64 0] := by rw [← hw3]; exact (k2r.alloc _).alloc _
 have hb3 : Below q w w3 := by rw [← hw3]; exact (hbw2.alloc (by omega) _).alloc (by simp; omega) _
 have hqb : q + 3 ≤ b := by omega
 have hTo := tours_any xf xr Nr cf Nr cr w3
 rw [hs3] at hTo
 have hI3 := Lib.hid (And.intro k3b (And.intro k3l (And.intro k3t (And.intro k3q (And.intro k3r hb3)))))
 have hw3' := Lib.hid hw3
 have hb' := Lib.hid hb
 have hs3' := Lib.hid hs3
 clear hw3 hb hs3 k3b k3l k3t k3q k3r hb3 k2t k2q k2r hbw2 hs2
 gi_upto_region 5 with fail
 try simp only [hb'.out]
 rw [hw3'.out]
 gi_wp2_with fail
 refine ⟨trivial, (callsIn_wide.2 hTo).mono ?_⟩
 clear hTo g0 g1 g2 g3 hgi
 rintro e w4 ⟨rfl, hw4⟩
 have hI4 : CheI S w q b (.slice xt Nt ct) (.slice xf Nr cf) (.slice xr Nr cr) r [] w4 := by
  obtain ⟨k3b, k3l, k3t, k3q, k3r, hb3⟩ := hI3.out
  rw [← hw4]
  exact ⟨(k3t.alloc _).alloc _, (k3q.alloc _).alloc _, (k3r.alloc _).alloc _, (k3b.alloc _).alloc _, (k3l.alloc _).alloc _, (At.new_ _ _ _ hs3'.out.symm).alloc _, At.new_ _ _ _ (by simp [hs3'.out]), (hb3.alloc (by rw [hs3'.out]; omega) _).alloc (by simp [hs3'.out]; omega) _⟩
 have hs4 : w4.heap.size = b + 4 := by rw [← hw4]; simp [hs3'.out]
 have hs4' := Lib.hid hs4
 have hsl : ∀ u ∈ us, ∃ x n c, u = .slice x n c := fun u hu => by
  obtain ⟨i, hi, rfl⟩ := List.getElem_of_mem hu
  have hi2 : i < S.rows.length := by rw [← hu1.out]; exact hi
  obtain ⟨x, n, c, e, -⟩ := (hu3.out i _ (S.rows[i]'hi2) (List.getElem?_eq_getElem hi) (List.getElem?_eq_getElem hi2)).opened
  exact ⟨x, n, c, e⟩
 have hlu : us.length = S.vs.length := by rw [hu1.out, hNr.out, hNf.out]
 clear hw4 hI3 hs4
 gi_wp2_with fail
 refine rangesRoundH (gf := 59) (fst := #[]) (lb := #[.pointer (some ⟨b + 2, 0, none⟩), .pointer (some ⟨b + 3, 0, none⟩)]) rfl (enters_of Tryz.func59 (by kernel_rfl) rfl) (encs := encT) (xs := toursL 0 S.vs us) (fun _ => rfl)
  (CheI S w q b (.slice xt Nt ct) (.slice xf Nr cf) (.slice xr Nr cr) r) (by rw [hs4'.out]; exact CheI.old (by omega)) hI4
  (tours_runs S.vs us hlu hsl (.slice xf Nr cf) (.slice xr Nr cr) (b + 2) (b + 3) q _ (by rw [hs4'.out]; omega) (fun _ => true) (CheI S w q b (.slice xt Nt ct) (.slice xf Nr cf) (.slice xr Nr cr) r) (fun _ A hA => ⟨CheM.hf hA, CheM.hr hA, hF'.out.keep (CheM.below hA) (Nat.le_refl _), hu2.out.keep (CheM.below hA) (Nat.le_refl _)⟩)) ?round ?done
 case round =>
  rintro pre x Wr ⟨rest, hx⟩ hW2 hIr
  obtain ⟨hx1, hx2, hx3⟩ := toursL_at hx
  obtain ⟨K, v, u⟩ := x
  simp only [Nat.zero_add] at hx1 hx2 hx3
  have hKN : K < Nr := by have := (List.getElem?_eq_some_iff.1 hx2).1; rw [hNf.out] at this; omega
  have hrl : S.rows[K]? = some (S.rows[K]'(by rw [hNr.out]; exact hKN)) := List.getElem?_eq_getElem _
  obtain ⟨l, hl⟩ : ∃ l, S.rows[K]? = some l := ⟨_, hrl⟩
  rw [← hx1] at hx2 hx3
  have hl100 := hlen'.out l (List.mem_of_getElem? hl)
  have hnl := Lib.hid (hnum'.out l (List.mem_of_getElem? hl))
  have hrow0 := Lib.hid (hu3.out K u l hx3 hl)
  obtain ⟨hd0, -, -⟩ := ok_dr (hokA.out K v l hx2 hl)
  have hd := Lib.hid hd0
  have hl16 : l.length ≤ 16 := hd0.hn
  obtain ⟨xu, Nu, cu, rfl, hNu, -⟩ := hrow0.out.opened
  rw [hNu.out] at hl16
  have hv' := Lib.hid hx2
  have hl' := Lib.hid hl
  have hpl : Hid (pre.length = K) := Lib.hid hx1.symm
  clear hrl hx hx1 hx2 hx3 hl hI4 hsl hIr hd0
  dsimp only [encT]
  gi_wp2
  refine ⟨grown_of (((Below.refl _ _).alloc (Nat.le_refl _) _).alloc (by simp) _), fun Vr hVs hVb hr9 hI2 => ?_⟩
  obtain ⟨z, hz⟩ : ∃ z, Wr.heap.size = z := ⟨_, rfl⟩
  have hzb : b + 6 ≤ z := by have := hs4'.out; omega
  have hKk : At Vr z 3 #[.int .i64 K] := by
   rw [← hz]; exact (hVb _ (by have := hs4'.out; omega)).trans ((At.new Wr _ _).alloc _)
  have hX : At Vr (z + 1) 111 #[.int .i64 v.hx, .int .i64 v.hy, .int .i64 v.cp, .int .i64 v.st, .int .i64 v.en, .slice xu Nu cu] := by
   rw [← hz]; exact (hVb _ (by have := hs4'.out; omega)).trans (At.new_ _ _ _ (by simp))
  have hI2 : CheM w q b (.slice xt Nt ct) (.slice xf Nr cf) (.slice xr Nr cr) r (bestB (leastQ (waysA S r pre.length))) Vr := hI2
  have hVq : q ≤ Vr.heap.size := by have := hX.inside; omega
  have hrowV := (hrow0.out.keep hI2.below (Nat.le_refl _)).more hVq
  have hTV := (hT'.out.keep hI2.below (Nat.le_refl _)).more hVq
  have hE := end_any v (.slice xu Nu cu) (.slice xt Nt ct) l S.t (by omega) hnl.out Vr hrowV hTV
  have x0 := hX.cell 0
  have x1 := hX.cell 1
  have x2 := hX.cell 2
  have x3 := hX.cell 3
  have x4 := hX.cell 4
  have x5 := hX.cell 5
  have t0 := hI2.ht.cell 0
  simp at x0 x1 x2 x3 x4 x5 t0
  have hzi := hX.inside
  have hI2' := Lib.hid hI2
  have hr9' := Lib.hid hr9
  have hX' := Lib.hid hX
  have hKk' := Lib.hid hKk
  have hHb := homeT_bd v l S.t
  obtain ⟨H, hH⟩ : ∃ H, homeT v l S.t = H := ⟨_, rfl⟩
  rw [hH] at hE hHb
  have hH' := Lib.hid hH
  try simp only [hz]
  clear hVs hVb hI2 hX hKk hrowV hTV hz hH hr9
  gi_wp2_with fail
  refine ⟨trivial, (callsIn_wide.2 hE).mono ?_⟩
  clear hE x0 x1 x2 x3 x4 x5 t0
  rintro e w5 ⟨rfl, hb5⟩
  obtain ⟨zw, hzw⟩ : ∃ zw, w5.heap.size = zw := ⟨_, rfl⟩
  have hzw2 : z + 2 ≤ zw := by have := hb5.size; omega
  obtain ⟨w6, hw6⟩ : ∃ w6, w5.alloc (.cells #[.int .i64 H] 3) = w6 := ⟨_, rfl⟩
  have hb56 : Below w5.heap.size w5 w6 := by rw [← hw6]; exact (Below.refl _ _).alloc (Nat.le_refl _) _
  have hb6 : Below Vr.heap.size Vr w6 := hb5.trans (hb56.mono hb5.size)
  have hs6 : w6.heap.size = zw + 1 := by rw [← hw6]; simp [hzw]
  have hW6 : At w6 zw 3 #[.int .i64 H] := by rw [← hw6]; exact At.new_ _ _ _ hzw.symm
  have hX6 := hX'.out.keep hb6 hzi
  have x5 := hX6.cell 5
  simp at x5
  have hzi6 := hX6.inside
  have hPl := places_any (Nu : Int) w6
  rw [hs6] at hPl
  have hw6' := Lib.hid hw6
  have hzw' := Lib.hid hzw
  have hs6' := Lib.hid hs6
  have hb6' := Lib.hid hb6
  have hW6' := Lib.hid hW6
  clear hb5 hb56 hb6 hw6 hzw hs6 hW6 hX6
  gi_upto_region 9 with fail
  try simp only [hzw'.out]
  rw [hw6'.out]
  gi_wp2_with fail
  refine ⟨trivial, (callsIn_wide.2 hPl).mono ?_⟩
  clear hPl x5
  rintro e w7 ⟨rfl, hw7⟩
  have hb67 : Below w6.heap.size w6 w7 := by rw [← hw7]; exact (Below.refl _ _).alloc (Nat.le_refl _) _
  have hb7 : Below Vr.heap.size Vr w7 := hb6'.out.trans (hb67.mono hb6'.out.size)
  have hs7 : w7.heap.size = zw + 2 := by rw [← hw7]; simp [hs6'.out]
  have hVr5 : b + 5 < Vr.heap.size := by omega
  have hP7 : PlcI S w q b (.slice xt Nt ct) (.slice xf Nr cf) (.slice xr Nr cr) r K v (.slice xu Nu cu) l z zw (zw + 1) Nu H Vr [] w7 :=
   ⟨by rw [inK_nil, ← hpl.out]; exact hI2'.out.on hb7, hKk'.out.keep hb7 hKk'.out.inside, hX'.out.keep hb7 hX'.out.inside, hW6'.out.keep hb67 hW6'.out.inside, by rw [← hw7]; exact At.new_ _ _ _ hs6'.out.symm, held_below hb7 hVr5⟩
  have hr7 : ∃ r0, w7.heap[w4.heap.size + 1]? = some (.loop r0) := by
   obtain ⟨r0, hr0⟩ := hr9'.out
   exact ⟨r0, (hb7.block _ (by rw [hs4'.out]; omega)).trans hr0⟩
  have hs7' := Lib.hid hs7
  clear hb67 hb7 hs7 hw7
  gi_wp2_with fail
  refine rangesRoundN hr7 (gf := 61) (fst := #[]) (lb := #[.pointer (some ⟨zw + 1, 0, none⟩)]) rfl (enters_of Tryz.func61 (by kernel_rfl) rfl) (encs := Ins.encP) (xs := fromL Nu 0) (fun _ => rfl)
   (PlcI S w q b (.slice xt Nt ct) (.slice xf Nr cf) (.slice xr Nr cr) r K v (.slice xu Nu cu) l z zw (zw + 1) Nu H Vr) (PlcI.old (by omega) (by rw [hs7'.out]; omega) hVr5) hP7
   (places_runs Nu (by omega) (zw + 1) _ (fun _ => true) (PlcI S w q b (.slice xt Nt ct) (.slice xf Nr cf) (.slice xr Nr cr) r K v (.slice xu Nu cu) l z zw (zw + 1) Nu H Vr) (fun _ A hA => hA.hn)) ?round2 ?done2
  case round2 =>
   rintro pre2 ⟨i, j⟩ Wi ⟨rest2, hx2⟩ hWi hJ
   dsimp only [Ins.encP]
   gi_wp2
   refine ⟨World.grownBy.refl _ _, fun Vi hVis hVib hJ2 => ?_⟩
   have hVz : zw + 2 < Vi.heap.size := by have := hs7'.out; omega
   have hVq2 : q ≤ Vi.heap.size := by omega
   have hrowV := (hrow0.out.keep hJ2.m.below (Nat.le_refl _)).more hVq2
   have hTV := (hT'.out.keep hJ2.m.below (Nat.le_refl _)).more hVq2
   have hWth := with_any v (.slice xu Nu cu) (.slice xt Nt ct) l S.t r i j (by rw [hNu.out]; omega) hnl.out hrI.out Vi hrowV hTV
   have o0 := hJ2.ho.cell 0
   have o1 := hJ2.ho.cell 1
   have o2 := hJ2.ho.cell 2
   have o3 := hJ2.ho.cell 3
   have o4 := hJ2.ho.cell 4
   have o5 := hJ2.ho.cell 5
   have t0 := hJ2.m.ht.cell 0
   have q0 := hJ2.m.hq.cell 0
   simp at o0 o1 o2 o3 o4 o5 t0 q0
   have hoi := hJ2.ho.inside
   have hJ2' := Lib.hid hJ2
   obtain ⟨hE1, hE2⟩ := withN_bd v l S.t r i j
   have hwr := Lib.hid (with_rise (i := i) (j := j) hd.out hinT.out)
   have hwv := Lib.hid (with_val (v := v) (l := l) (t := S.t) (r := r) (i := i) (j := j))
   obtain ⟨E, hE⟩ : ∃ E, withN v l S.t r i j = E := ⟨_, rfl⟩
   obtain ⟨Bo, hBo⟩ : ∃ B, withB v l S.t r i j = B := ⟨_, rfl⟩
   rw [hE, hBo] at hWth
   rw [hE] at hE1 hE2 hwv
   rw [hBo] at hwr hwv
   rw [hH'.out] at hwv
   clear hVis hVib hJ2 hrowV hTV hJ hP7 hx2 hE hBo
   gi_wp2_with fail
   refine ⟨trivial, (callsIn_wide.2 hWth).mono ?_⟩
   clear hWth o0 o1 o2 o3 o4 o5 t0 q0
   rintro e w8 ⟨rfl, hb8⟩
   have hJ8 := hJ2'.out.on hb8 hVr5
   obtain ⟨y, hy⟩ : ∃ y, w8.heap.size = y := ⟨_, rfl⟩
   obtain ⟨w9, hw9⟩ : ∃ w9, w8.alloc (.cells #[.int .i64 K, .int .i64 i, .int .i64 j, .int .i64 (E - H)] 90) = w9 := ⟨_, rfl⟩
   have hb9 : Below w8.heap.size w8 w9 := by rw [← hw9]; exact (Below.refl _ _).alloc (Nat.le_refl _) _
   have hJ9 := hJ8.on hb9 hVr5
   have hY : At w9 y 90 #[.int .i64 K, .int .i64 i, .int .i64 j, .int .i64 (E - H)] := by rw [← hw9]; exact At.new_ _ _ _ hy.symm
   have hG9 := Lib.hid (held1_below (n := zw + 2) (hb8.trans (hb9.mono hb8.size)) hVz)
   have k0 := hJ8.hk.cell 0
   have h0 := hJ8.hw.cell 0
   simp at k0 h0
   have hki := hJ8.hk.inside
   have hwi := hJ8.hw.inside
   have hsg9 := hsg0.out.keep hJ9.m.below hgq
   have hzy : z + 2 ≤ y := by have := hJ8.ho.inside; omega
   have hJ9' := Lib.hid hJ9
   have hw9' := Lib.hid hw9
   have hy' := Lib.hid hy
   have hH0 := hHb.1
   have hH1 := hHb.2
   have hq8 := hJ8.m.inside
   clear hb8 hb9 hw9 hy hJ8
   gi_upto_region 14 with fail
   try simp only [hy'.out]
   rw [hw9'.out]
   clear k0 h0
   cases Bo
   · have hno := Lib.hid (show bestB (leastQ (inK S r K v l (pre2 ++ [(i, j)]))) = bestB (leastQ (inK S r K v l pre2)) by
      rw [inK_no (fun hz => by have := hwr.out.2 hz; cases this)])
     clear hJ9 hY hsg9
     have hfin := Lib.hid (hJ9'.out.as hno.out)
     gi_wp2_with fail
     refine ⟨fun _ h => (by cases h), ?_⟩
     gi_wp2
     exact ⟨rfl, hfin.out, by rw [hs7'.out]; exact hG9.out⟩
   · have hz := hwr.out.1 rfl
     have hval := hwv.out rfl hz
     have hyes := Lib.hid (inK_yes (S := S) (k := K) (pre := pre2) hz)
     rw [← hval] at hyes
     have hby := Lib.hid (fun h => (by rw [hyes.out]; exact best_yes (y := ((K : Int), ⟨i, j, E - H⟩)) h : bestB (leastQ (inK S r K v l (pre2 ++ [(i, j)]))) = ((K : Int), ⟨i, j, E - H⟩)))
     have hbn := Lib.hid (fun h => (by rw [hyes.out]; exact best_no (y := ((K : Int), ⟨i, j, E - H⟩)) h : bestB (leastQ (inK S r K v l (pre2 ++ [(i, j)]))) = bestB (leastQ (inK S r K v l pre2))))
     have hbest := hJ9.m.best
     obtain ⟨a, ha⟩ : ∃ a, bestB (leastQ (inK S r K v l pre2)) = a := ⟨_, rfl⟩
     rw [ha] at hbest hby hbn
     obtain ⟨a1, a2, a3, a4⟩ := a
     have hL := less_any b a1 a2 a3 a4 K i j (E - H) w9 hsg9 hbest
     obtain ⟨R, hR⟩ : ∃ R, ((decide (a1 = -1) && (decide (a2 = 0) && (decide (a3 = 0) && decide (a4 = 0)))) || decide (E - H < a4)) = R := ⟨_, rfl⟩
     rw [hR] at hL
     have hR' : Hid (lessB (a1, ⟨a2, a3, a4⟩) (E - H) = R) := Lib.hid hR
     have ha' := Lib.hid ha
     have l0 := hJ9.m.less.cell 0
     have y0 := hY.cell 0
     have y1 := hY.cell 1
     have y2 := hY.cell 2
     have y3 := hY.cell 3
     simp at l0 y0 y1 y2 y3
     have hyi := hY.inside
     have hli := hJ9.m.less.inside
     have hY' := Lib.hid hY
     clear hJ9 hY hsg9 hz hval hbest hR ha
     gi_wp2_with fail
     refine ⟨trivial, (callsIn_wide.2 hL).mono ?_⟩
     clear hL l0 y0 y1 y2 y3
     rintro e w10 ⟨rfl, hb10⟩
     have hJ10 := hJ9'.out.on hb10 hVr5
     have hY10 := hY'.out.keep hb10 hyi
     have hG10 := Lib.hid (hG9.out.trans (held1_below hb10 (by have := hG9.out.size; omega)))
     cases R
     · have hno := Lib.hid (hbn.out hR'.out)
       have hfin := Lib.hid (hJ10.as (by rw [hno.out, ha'.out]))
       clear hJ10 hY10 hb10
       gi_wp2
       exact ⟨rfl, hfin.out, by rw [hs7'.out]; exact hG10.out⟩
     · have hye := Lib.hid (hby.out hR'.out)
       have hfin := Lib.hid (hJ10.put hqb (by omega) (by omega) (by omega) ((K : Int), ⟨i, j, E - H⟩) hye.out)
       have y0 := hY10.cell 0
       have y1 := hY10.cell 1
       have y2 := hY10.cell 2
       have y3 := hY10.cell 3
       simp at y0 y1 y2 y3
       have c0 := hJ10.m.best.cell 0
       have c1 := hJ10.m.best.cell 1
       have c2 := hJ10.m.best.cell 2
       have c3 := hJ10.m.best.cell 3
       have cf := hJ10.m.best.free
       simp [encQ] at c0 c1 c2 c3
       have hbi := hJ10.m.best.inside
       have hyi10 := hY10.inside
       have hby' : b ≠ y := by omega
       clear hJ10 hY10 hb10
       gi_wp2
       exact ⟨rfl, hfin.out, by rw [hs7'.out]; exact (((hG10.out.trans (Held1.setCell _ (by omega) _)).trans (Held1.setCell _ (by omega) _)).trans (Held1.setCell _ (by omega) _)).trans (Held1.setCell _ (by omega) _)⟩
  case done2 =>
   rintro W8 hW8 hJ3
   have hfin : Hid (CheI S w q b (.slice xt Nt ct) (.slice xf Nr cf) (.slice xr Nr cr) r (pre ++ [(K, v, .slice xu Nu cu)]) W8 ∧ Held w4.heap.size Vr W8) := Lib.hid ⟨by
    have h9 := hJ3.m
    have e9 : fromL Nu 0 = pairsL l.length := by rw [hNu.out, pairsL_in hl16]
    rw [e9, inK_all hv'.out hl'.out] at h9
    unfold CheI
    rw [List.length_append, hpl.out]
    exact h9, by rw [hs4'.out]; exact hJ3.held⟩
   clear hJ3 hP7
   gi_wp2
   exact ⟨rfl, hfin.out.1, hfin.out.2⟩
 case done =>
  rintro Wd hWd hI hD
  have hI : CheM w q b (.slice xt Nt ct) (.slice xf Nr cf) (.slice xr Nr cr) r (bestB (leastQ (waysA S r (toursL 0 S.vs us).length))) Wd := hI
  rw [toursL_length hlu, ← hws.out] at hI
  obtain ⟨a, ha⟩ : ∃ a, bestB (leastQ (waysS S r)) = a := ⟨_, rfl⟩
  rw [ha] at hI
  have ha' := Lib.hid ha
  obtain ⟨a1, a2, a3, a4⟩ := a
  have c0 := hI.best.cell 0
  have c1 := hI.best.cell 1
  have c2 := hI.best.cell 2
  have c3 := hI.best.cell 3
  have r0 := hI.res.cell 0
  have r1 := hI.res.cell 1
  have r2 := hI.res.cell 2
  have r3 := hI.res.cell 3
  have rf := hI.res.free
  simp [encQ] at c0 c1 c2 c3 r0 r1 r2 r3
  have hbi := hI.best.inside
  have hri := hI.res.inside
  have hI' := Lib.hid hI
  have hbq : b ≠ q + 2 := by omega
  clear hI ha hI4 hsl
  gi_wp2
  have hD2 : ((((Wd.setCell ⟨q + 2, 0, none⟩ (.int .i64 a1)).setCell ⟨q + 2, 1, none⟩ (.int .i64 a2)).setCell ⟨q + 2, 2, none⟩ (.int .i64 a3)).setCell ⟨q + 2, 3, none⟩ (.int .i64 a4)).heap[w4.heap.size]? = some (.deferred (some [])) := by
   have hne : w4.heap.size ≠ q + 2 := by rw [hs4'.out]; omega
   exact (Below.heap_setCell _ _ _ _ hne).trans ((Below.heap_setCell _ _ _ _ hne).trans ((Below.heap_setCell _ _ _ _ hne).trans ((Below.heap_setCell _ _ _ _ hne).trans hD)))
  have hr3 : At ((((Wd.setCell ⟨q + 2, 0, none⟩ (.int .i64 a1)).setCell ⟨q + 2, 1, none⟩ (.int .i64 a2)).setCell ⟨q + 2, 2, none⟩ (.int .i64 a3)).setCell ⟨q + 2, 3, none⟩ (.int .i64 a4)) (q + 2) 90 #[.int .i64 a1, .int .i64 a2, .int .i64 a3, .int .i64 a4] := by exact put_w4 hI'.out.res
  have hr2 := hr3.put_off (n := w4.heap.size) (o := .deferred none) (by rw [hs4'.out]; omega)
  have hb2 : Below q w (((((Wd.setCell ⟨q + 2, 0, none⟩ (.int .i64 a1)).setCell ⟨q + 2, 1, none⟩ (.int .i64 a2)).setCell ⟨q + 2, 2, none⟩ (.int .i64 a3)).setCell ⟨q + 2, 3, none⟩ (.int .i64 a4)).putObj w4.heap.size (.deferred none)) :=
   ((((hI'.out.below.setCell (by simp) _).setCell (by simp) _).setCell (by simp) _).setCell (by simp) _).trans (below_put (by rw [hs4'.out]; omega) hD2)
  refine ⟨by simp, .inl ⟨_, _, rfl, run_takeDeferred hD2, ?_⟩⟩
  exact ⟨_, res_pway rfl rfl hr2, by rw [ha'.out]; rfl, hb2⟩
end Go.Proofs.YteclpblfleakhaaGreatDoor.Price

import Derived.Test.YteclpblfleakhaaGreatDoorPkOpen
import Derived.Test.YteclpblfleakhaaGreatDoorPkPlanProg

namespace Go.Proofs.YteclpblfleakhaaGreatDoor.Price
open Go.RowKit Go.Sort Go.Proofs.YteclpblfleakhaaGreatDoor.Mem Go.Proofs.YteclpblfleakhaaGreatDoor.Order Go.Proofs.YteclpblfleakhaaGreatDoor.Route Go.Proofs.YteclpblfleakhaaGreatDoor.When Go.Proofs.YteclpblfleakhaaGreatDoor.Load Go.Proofs.YteclpblfleakhaaGreatDoor.Feas Go.Proofs.YteclpblfleakhaaGreatDoor.Ins Go.Proofs.YteclpblfleakhaaGreatDoor.Cheap Go.Proofs.YteclpblfleakhaaGreatDoor.Plan
set_option linter.unusedVariables false
def LeastOk (P : World → Prop) : Prop := ∀ (vf vr vt : Value) (S : St) (r : Int) (w : World), P w → Vhs w.heap.size w vf S.vs → Rws w.heap.size w vr S.rows → Rqs w.heap.size w vt S.t → (∀ l ∈ S.rows, l.length ≤ 100) → (∀ l ∈ S.rows, Nums l) → S.t.length ≤ 1000 →
 Calls Tryz.prog 16 #[vf, vr, vt, .int .i64 r] w fun e w' => e = .returned (.tuple #[.int .i64 (leastV S r).1, .int .i64 (leastV S r).2.i, .int .i64 (leastV S r).2.j, .bool (leastQ (waysS S r)).isSome]) ∧ Below w.heap.size w w'
def BruteOk (P : World → Prop) : Prop := ∀ (vf vr vt : Value) (S : St) (r : Int) (w : World), P w → Vhs w.heap.size w vf S.vs → Rws w.heap.size w vr S.rows → Rqs w.heap.size w vt S.t → (∀ l ∈ S.rows, l.length ≤ 100) → (∀ l ∈ S.rows, Nums l) → S.t.length ≤ 1000 →
 Calls Tryz.prog 18 #[vf, vr, vt, .int .i64 r] w fun e w' => e = .returned (.int .u64 (bruteN S r)) ∧ Below w.heap.size w w'
set_option maxRecDepth 100000 in
set_option maxHeartbeats 4000000 in
theorem told_any {P : World → Prop} (hP : ∀ {w w' : World}, P w → Below w.heap.size w w' → P w') (hL : LeastOk P) (hB : BruteOk P) {vf vr vt : Value} (S : St) (r : Int) (w : World) (hPw : P w) (hF : Vhs w.heap.size w vf S.vs) (hR : Rws w.heap.size w vr S.rows) (hT : Rqs w.heap.size w vt S.t) (hlen : ∀ l ∈ S.rows, l.length ≤ 100) (hnum : ∀ l ∈ S.rows, Nums l) (ht : S.t.length ≤ 1000) :
 Calls Tryz.prog 6 #[vf, vr, vt, .int .i64 r] w fun e w' => e = .returned (.bool true) ∧ Below w.heap.size w w' := by
 have h1 := hL vf vr vt S r w hPw hF hR hT hlen hnum ht
 have h2 : Hid (∀ W, Below w.heap.size w W → Calls Tryz.prog 17 #[vf, vr, vt, .int .i64 r] W fun e w' => e = .returned (.tuple #[.agg (encQ (leastV S r)), .bool (leastQ (waysS S r)).isSome]) ∧ Below W.heap.size W w') := Lib.hid (fun W hW => refLeast_any S r W (hF.on hW) (hR.on hW) (hT.on hW) hlen hnum)
 have h3 : Hid (∀ W, Below w.heap.size w W → Calls Tryz.prog 18 #[vf, vr, vt, .int .i64 r] W fun e w' => e = .returned (.int .u64 (bruteN S r)) ∧ Below W.heap.size W w') := Lib.hid (fun W hW => hB vf vr vt S r W (hP hPw hW) (hF.on hW) (hR.on hW) (hT.on hW) hlen hnum ht)
 have h4 : Hid (∀ W, Below w.heap.size w W → Calls Tryz.prog 12 #[vf, vr, vt, .int .i64 r] W fun e w' => e = .returned (.int .u64 (bruteN S r)) ∧ Below W.heap.size W w') := Lib.hid (fun W hW => refBrute_any S r W (hF.on hW) (hR.on hW) (hT.on hW) hlen hnum ht)
 obtain ⟨xf, Nf, cf, rfl, -⟩ := Vhs.opened hF
 obtain ⟨xr, Nr, cr, rfl, -⟩ := Rws.opened hR
 obtain ⟨xt, Nt, ct, rfl, -⟩ := Rqs.opened hT
 obtain ⟨n, hn⟩ : ∃ n, bruteN S r = n := ⟨_, rfl⟩
 rw [hn] at h3 h4
 obtain ⟨a, ha⟩ : ∃ a, (leastV S r).1 = a := ⟨_, rfl⟩
 obtain ⟨i, hi⟩ : ∃ a, (leastV S r).2.i = a := ⟨_, rfl⟩
 obtain ⟨j, hj⟩ : ∃ a, (leastV S r).2.j = a := ⟨_, rfl⟩
 obtain ⟨d, hd⟩ : ∃ a, (leastV S r).2.n = a := ⟨_, rfl⟩
 obtain ⟨b, hb⟩ : ∃ b, (leastQ (waysS S r)).isSome = b := ⟨_, rfl⟩
 have hz : Hid (b = false → a = 0 ∧ i = 0 ∧ j = 0) := Lib.hid (fun e => by
  rw [← hb] at e
  have : leastQ (waysS S r) = none := by cases h : leastQ (waysS S r) <;> simp [h] at e ⊢
  have h5 : leastV S r = (0, ⟨0, 0, 0⟩) := by unfold leastV; rw [this]; rfl
  rw [h5] at ha hi hj
  exact ⟨ha.symm, hi.symm, hj.symm⟩)
 unfold encQ at h2
 rw [ha, hi, hj, hd, hb] at h2
 rw [ha, hi, hj, hb] at h1
 clear ha hi hj hd hb hn hF hR hT hlen hnum ht hL hB hPw
 go_enter Tryz.func6, Tryz.ntmps6
 go_wp2_with fail
 refine h1.mono ?_
 clear h1
 rintro e w1 ⟨rfl, hb1⟩
 have hB1 := Lib.hid hb1
 have h2' := h2.out w1 hb1
 clear hb1 h2
 go_wp2_with fail
 refine h2'.mono ?_
 clear h2'
 rintro e w2 ⟨rfl, hb2⟩
 have hB2 := Lib.hid (hB1.out.trans (hb2.mono hB1.out.size))
 obtain ⟨w3, hw3⟩ : ∃ w3, w2.alloc (.cells #[.int .i64 a, .int .i64 i, .int .i64 j, .int .i64 d] 64) = w3 := ⟨_, rfl⟩
 have hP3 : At w3 w2.heap.size 64 #[.int .i64 a, .int .i64 i, .int .i64 j, .int .i64 d] := by rw [← hw3]; exact At.new _ _ _
 have hB3 : Hid (Below w.heap.size w w3) := Lib.hid (by rw [← hw3]; exact hB2.out.alloc hB2.out.size _)
 have p0 := hP3.cell 0
 have p1 := hP3.cell 1
 have p2 := hP3.cell 2
 simp at p0 p1 p2
 have hpi := hP3.inside
 have h3' := h3.out w3 hB3.out
 have hw3' := Lib.hid hw3
 clear hb2 hB1 hB2 h3 hw3 hP3
 go_upto_region 3 with fail
 rw [hw3'.out]
 clear hw3'
 cases b
 · obtain ⟨rfl, rfl, rfl⟩ := hz.out rfl
   go_wp2_with fail
   refine h3'.mono ?_
   clear h3' p0 p1 p2 hpi
   rintro e w4 ⟨rfl, hb4⟩
   have hB4 := Lib.hid (hB3.out.trans (hb4.mono hB3.out.size))
   have h4' := h4.out w4 hB4.out
   clear hb4
   go_wp2_with fail
   refine h4'.mono ?_
   rintro e w5 ⟨rfl, hb5⟩
   have hB5 := Lib.hid (hB4.out.trans (hb5.mono hB4.out.size))
   clear hb5 h4'
   go_wp2
   go_ret
   exact ⟨by first | rfl | trivial | simp, hB5.out⟩
 · go_wp2_with fail
   refine h3'.mono ?_
   clear h3' p0 p1 p2 hpi
   rintro e w4 ⟨rfl, hb4⟩
   have hB4 := Lib.hid (hB3.out.trans (hb4.mono hB3.out.size))
   have h4' := h4.out w4 hB4.out
   clear hb4
   go_wp2_with fail
   refine h4'.mono ?_
   rintro e w5 ⟨rfl, hb5⟩
   have hB5 := Lib.hid (hB4.out.trans (hb5.mono hB4.out.size))
   clear hb5 h4'
   go_wp2
   go_ret
   exact ⟨by first | rfl | trivial | simp, hB5.out⟩
end Go.Proofs.YteclpblfleakhaaGreatDoor.Price
namespace Go.Proofs.YteclpblfleakhaaGreatDoor.Ins
open Go.RowKit Go.Sort Go.Proofs.YteclpblfleakhaaGreatDoor.Mem Go.Proofs.YteclpblfleakhaaGreatDoor.Route
set_option linter.unusedVariables false
theorem Kp.put {B : Nat} {T : TypeId} {a : World} {g : Nat} {cs : Array Value} (h : At a g T cs) (hB : B ≤ g) (i : Nat) (x : Value) : Kp B T a (a.setCell ⟨g, i, none⟩ x) :=
 ⟨(Below.refl _ _).setCell (by exact hB) _, fun b ds t f hb ht => by
  refine (Below.heap_setCell a ⟨g, i, none⟩ x b (fun e => ?_)).trans hb
  have e : b = g := e
  subst e
  unfold At at h
  rw [h] at hb
  cases hb
  exact ht rfl⟩
def ZV (a s B : Nat) (T : TypeId) (zs cs : Array Value) (done : Nat → Bool) (ys : Nat → Value) (w : World) : Prop :=
 (done s = true → done a = true) ∧ (done a = true → ∃ g : Nat, ys a = .pointer (some ⟨g, 0, none⟩) ∧ B ≤ g ∧ (done s = false → At w g T zs) ∧ (done s = true → At w g T cs))
theorem ZV.start {a s B : Nat} {T : TypeId} {zs cs : Array Value} {ys : Nat → Value} {w : World} : ZV a s B T zs cs (fun _ => false) ys w := ⟨fun h => (by cases h), fun h => (by cases h)⟩
theorem ZV.light {a s B k : Nat} {T : TypeId} {zs cs : Array Value} {done : Nat → Bool} {ys : Nat → Value} {w w' : World} {v : Value} (h : ZV a s B T zs cs done ys w) (ha : a ≠ k) (hs : s ≠ k) (hb : Below w.heap.size w w') : ZV a s B T zs cs (Sched.mark done k) (Sched.upd ys k v) w' := by
 have ea : Sched.mark done k a = done a := by simp [Sched.mark, ha]
 have es : Sched.mark done k s = done s := by simp [Sched.mark, hs]
 unfold ZV
 rw [ea, es, show Sched.upd ys k v a = ys a by simp [Sched.upd, ha]]
 refine ⟨h.1, fun hd => ?_⟩
 obtain ⟨g, e, hg, h0, h1⟩ := h.2 hd
 exact ⟨g, e, hg, fun d => (h0 d).keep hb (h0 d).inside, fun d => (h1 d).keep hb (h1 d).inside⟩
theorem ZV.lay {a s B : Nat} {T : TypeId} {zs cs : Array Value} {done : Nat → Bool} {ys : Nat → Value} {w w' : World} {g : Nat} (h : ZV a s B T zs cs done ys w) (hn : done a = false) (has : a ≠ s) (hA : At w' g T zs) (hB : B ≤ g) :
 ZV a s B T zs cs (Sched.mark done a) (Sched.upd ys a (.pointer (some ⟨g, 0, none⟩))) w' := by
 have hds : done s = false := by
  cases e : done s
  · rfl
  · rw [h.1 e] at hn; cases hn
 have es : Sched.mark done a s = false := by simp [Sched.mark, Ne.symm has, hds]
 unfold ZV
 rw [es]
 exact ⟨(fun e => by cases e), fun _ => ⟨g, by simp [Sched.upd], hB, (fun _ => hA), (fun e => by cases e)⟩⟩
theorem ZV.put {a s B : Nat} {T : TypeId} {zs cs : Array Value} {done : Nat → Bool} {ys : Nat → Value} {w w' : World} {v : Value} {g : Nat} (h : ZV a s B T zs cs done ys w) (hd : done a = true) (has : a ≠ s) (hy : ys a = .pointer (some ⟨g, 0, none⟩)) (hA : At w' g T cs) (hB : B ≤ g) :
 ZV a s B T zs cs (Sched.mark done s) (Sched.upd ys s v) w' := by
 have ea : Sched.mark done s a = true := by simp [Sched.mark, has, hd]
 have es : Sched.mark done s s = true := by simp [Sched.mark]
 unfold ZV
 rw [ea, es]
 exact ⟨(fun _ => rfl), fun _ => ⟨g, by simp [Sched.upd, has, hy], hB, (fun e => by cases e), (fun _ => hA)⟩⟩
theorem ZV.at0 {a s B : Nat} {T : TypeId} {zs cs : Array Value} {done : Nat → Bool} {ys : Nat → Value} {w : World} (h : ZV a s B T zs cs done ys w) (hd : done a = true) (hs : done s = false) : ∃ g : Nat, ys a = .pointer (some ⟨g, 0, none⟩) ∧ B ≤ g ∧ At w g T zs := by
 obtain ⟨g, e, hg, h0, _⟩ := h.2 hd
 exact ⟨g, e, hg, h0 hs⟩
theorem ZV.at1 {a s B : Nat} {T : TypeId} {zs cs : Array Value} {done : Nat → Bool} {ys : Nat → Value} {w : World} (h : ZV a s B T zs cs done ys w) (hd : done a = true) (hs : done s = true) : ∃ g : Nat, ys a = .pointer (some ⟨g, 0, none⟩) ∧ B ≤ g ∧ At w g T cs := by
 obtain ⟨g, e, hg, _, h1⟩ := h.2 hd
 exact ⟨g, e, hg, h1 hs⟩
end Go.Proofs.YteclpblfleakhaaGreatDoor.Ins
namespace Go.Proofs.YteclpblfleakhaaGreatDoor.Price
open Go.RowKit Go.Sort Go.Proofs.YteclpblfleakhaaGreatDoor.Mem Go.Proofs.YteclpblfleakhaaGreatDoor.Order Go.Proofs.YteclpblfleakhaaGreatDoor.Route Go.Proofs.YteclpblfleakhaaGreatDoor.When Go.Proofs.YteclpblfleakhaaGreatDoor.Load Go.Proofs.YteclpblfleakhaaGreatDoor.Feas Go.Proofs.YteclpblfleakhaaGreatDoor.Ins Go.Proofs.YteclpblfleakhaaGreatDoor.Cheap Go.Proofs.YteclpblfleakhaaGreatDoor.Plan
set_option linter.unusedVariables false
def dropQ (q : Rq) (x : Int) : Rq := ⟨q.fx, q.fy, q.tx, q.ty, q.pe, q.pl, q.de, x, q.ld, q.sv⟩
theorem set_flat (x : Int) : ∀ (t : List Rq) (k : Nat) (q : Rq), t[k]? = some q → ((t.set k (dropQ q x)).map rqV).flatten = ((t.map rqV).flatten).set (k * 10 + 7) (.int .i64 x)
 | [], k, q, h => by simp at h
 | a :: t, 0, q, h => by cases h; simp [rqV, dropQ]
 | a :: t, k + 1, q, h => by
  have ih := set_flat x t k q (by simpa using h)
  rw [List.set_cons_succ, List.map_cons, List.flatten_cons, ih, List.map_cons, List.flatten_cons, List.set_append_right _ _ (by simp [rqV]; omega)]
  congr 2
  simp [rqV]
  omega
structure OddAt (w0 : World) (g : Nat) (ts : List Rq) (W : World) : Prop where
 at_ : ∃ cur, At W g 43 cur ∧ ∀ (j : Nat) (u : Value), (ts.map rqV).flatten[j]? = some u → cur[j]? = some u
 new : w0.heap.size ≤ g
 b : Below w0.heap.size w0 W
theorem OddAt.of {w0 W : World} {v : Value} {ts : List Rq} {n : Nat} (h : W.ownsRow w0.heap.size 43 10 v n (When.flatQ ts)) (hn : 0 < n) (hb : Below w0.heap.size w0 W) : ∃ g c, v = .slice (some ⟨g, 0, none⟩) n c ∧ n ≤ c ∧ c ≤ maxLen ∧ OddAt w0 g ts W := by
 obtain ⟨hl, ⟨-, h1⟩ | ⟨g, cap, cur, rfl, hg, hh, hn, hc, hsz, ht⟩⟩ := h
 · omega
 · refine ⟨g, cap, rfl, hn, hc, ⟨cur, hh, fun j u hj => ?_⟩, hg, hb⟩
   have ht' : cur.toList.take (n * 10) = (ts.map rqV).flatten := ht
   rw [← ht', List.getElem?_take] at hj
   split at hj
   · simpa using hj
   · cases hj
theorem OddAt.rqs {w0 W : World} {g n c : Nat} {ts : List Rq} (h : OddAt w0 g ts W) (hn : ts.length = n) (hc : n ≤ c) (hm : c ≤ maxLen) : Rqs W.heap.size W (.slice (some ⟨g, 0, none⟩) n c) ts := by
 obtain ⟨cur, hA, hcs⟩ := h.at_
 subst hn
 have := RowB.of_at (m := 10) (cap := c) (rows := ts.map rqV) hA hA.inside (fun r hr => by obtain ⟨s, _, rfl⟩ := List.mem_map.1 hr; rfl) hcs (by simpa using hc) hm
 simpa [Rqs] using this
theorem OddAt.free {w0 W : World} {g : Nat} {ts : List Rq} (h : OddAt w0 g ts W) (j : Nat) : W.frozen? ⟨g, j, none⟩ = false := by
 obtain ⟨cur, hA, -⟩ := h.at_
 exact hA.free j
theorem OddAt.cell {w0 W : World} {g : Nat} {ts : List Rq} (h : OddAt w0 g ts W) (j : Nat) (hj : j < (ts.map rqV).flatten.length) : ∃ u, W.cell? ⟨g, j, none⟩ = some u := by
 obtain ⟨cur, hA, hcs⟩ := h.at_
 exact ⟨_, (hA.cell j).trans (hcs j _ (List.getElem?_eq_getElem hj))⟩
theorem OddAt.inside {w0 W : World} {g : Nat} {ts : List Rq} (h : OddAt w0 g ts W) : g < W.heap.size := by
 obtain ⟨cur, hA, -⟩ := h.at_
 exact hA.inside
theorem OddAt.put {w0 W : World} {g : Nat} {vs us : List Rq} (h : OddAt w0 g vs W) (j : Nat) (x : Value) (hs : (us.map rqV).flatten = (vs.map rqV).flatten.set j x) : OddAt w0 g us (W.setCell ⟨g, j, none⟩ x) := by
 obtain ⟨cur, hA, hcs⟩ := h.at_
 refine ⟨⟨_, hA.put j x, fun i u hi => ?_⟩, h.new, h.b.setCell h.new _⟩
 rw [hs] at hi
 by_cases e : j = i
 · subst e
   have hj : j < (vs.map rqV).flatten.length := by
    have h1 := (List.getElem?_eq_some_iff.1 hi).1
    simpa only [List.length_set] using h1
   rw [List.getElem?_set_self hj] at hi
   have hc := hcs j _ (List.getElem?_eq_getElem hj)
   have hs2 := (Array.getElem?_eq_some_iff.1 hc).1
   rw [Array.getElem?_setIfInBounds_self_of_lt hs2]
   exact hi
 · rw [List.getElem?_set_ne e] at hi
   rw [Array.getElem?_setIfInBounds_ne e]
   exact hcs i u hi
theorem cutB14 {B : Nat} {W : World} {x : Option Addr} {N cap k m : Nat} {l : List (List Value)} (h : RowB B W (.slice x N cap) m l) (hl : l.length = N) (hk : k ≤ N) : RowB B W (.slice x k cap) m (l.take k) := by
 obtain ⟨x', cap', e, h1, h2, h0, h3⟩ := h
 simp only [Value.slice.injEq] at e
 obtain ⟨rfl, rfl, rfl⟩ := e
 refine ⟨x, cap, by simp; omega, by simp; omega, h2, fun hx => ?_, fun j r hj => ?_⟩
 · have := h0 hx
   simp [this]
 · have hjk : j < k := by
    rcases Nat.lt_or_ge j k with h | h
    · exact h
    · rw [List.getElem?_eq_none (by simp; omega)] at hj; cases hj
   rw [List.getElem?_take_of_lt hjk] at hj
   exact h3 j r hj
theorem cutRow {W : World} {x : Option Addr} {N cap k : Nat} {l : List (Int × Int)} (h : Row W.heap.size W (.slice x N cap) l) (hl : l.length = N) (hk : k ≤ N) : Row W.heap.size W (.slice x k cap) (l.take k) := by
 have := cutB14 (l := l.map stV) (by exact h) (by rw [List.length_map]; exact hl) hk
 rw [← List.map_take] at this
 exact this
theorem leastOk : LeastOk SgP' := fun _ _ _ S r w h1 h2 h3 h4 h5 h6 h7 => Least_any S r w h1 h2 h3 h4 h5 h6 h7
theorem bruteOk : BruteOk SgP' := fun _ _ _ S r w h1 h2 h3 h4 h5 h6 h7 => Brute_any S r w h1 h2 h3 h4 h5 h6 h7
theorem t_any {W : World} (hsg : Sg3 W) {vf vr vt : Value} (vs : List Vh) (t : List Rq) (rows : List (List (Int × Int))) (r : Int) (hF : Vhs W.heap.size W vf vs) (hR : Rws W.heap.size W vr rows) (hT : Rqs W.heap.size W vt t) (h1 : ∀ l ∈ rows, l.length ≤ 100 ∧ Nums l) (ht : t.length ≤ 1000) :
 Calls Tryz.prog 6 #[vf, vr, vt, .int .i64 r] W fun e w' => e = .returned (.bool true) ∧ Below W.heap.size W w' :=
 told_any (fun h hb => h.on hb) leastOk bruteOk ⟨vs, t, rows⟩ r W hsg.sp hF hR hT (fun l hl => (h1 l hl).1) (fun l hl => (h1 l hl).2) ht
theorem two_rows {W : World} {g : Nat} {u0 u1 : Value} {l0 l1 : List (Int × Int)} (h : At W g 28 #[u0, u1]) (h0 : Row W.heap.size W u0 l0) (h1 : Row W.heap.size W u1 l1) : Rws W.heap.size W (.slice (some ⟨g, 0, none⟩) 2 2) [l0, l1] := by
 refine ⟨[u0, u1], rfl, RowB.of_at (m := 1) (rows := [[u0], [u1]]) h h.inside (fun r hr => by simp at hr; rcases hr with rfl | rfl <;> rfl) (fun i u hu => by simpa using hu) (Nat.le_refl _) (by decide), fun i u l hu hl => ?_⟩
 match i with
 | 0 => simp at hu hl; subst hu; subst hl; exact h0
 | 1 => simp at hu hl; subst hu; subst hl; exact h1
 | i + 2 => simp at hu
theorem two_cars {W : World} {g : Nat} {v0 v1 : Vh} (h : At W g 32 #[.int .i64 v0.hx, .int .i64 v0.hy, .int .i64 v0.cp, .int .i64 v0.st, .int .i64 v0.en, .int .i64 v1.hx, .int .i64 v1.hy, .int .i64 v1.cp, .int .i64 v1.st, .int .i64 v1.en]) :
 Vhs W.heap.size W (.slice (some ⟨g, 0, none⟩) 2 2) [v0, v1] ∧ Vhs W.heap.size W (.slice (some ⟨g, 0, none⟩) 1 2) [v0] :=
 ⟨RowB.of_at (m := 5) (rows := [vhV v0, vhV v1]) h h.inside (fun r hr => by simp [vhV] at hr; rcases hr with rfl | rfl <;> rfl) (fun i u hu => by simpa [vhV] using hu) (Nat.le_refl _) (by decide),
  RowB.of_at (m := 5) (cap := 2) (rows := [vhV v0]) h h.inside (fun r hr => by simp [vhV] at hr; rw [hr]; rfl) (fun i u hu => by
   have hi : i < 5 := by have := (List.getElem?_eq_some_iff.1 hu).1; simpa [vhV] using this
   match i, hi with
   | 0, _ | 1, _ | 2, _ | 3, _ | 4, _ => simpa [vhV] using hu) (by simp) (by decide)⟩
theorem own_some {W : World} {base n m : Nat} {e : TypeId} {u : Value} {xs : List Value} (h : W.ownsRow base e m u n xs) (hn : 0 < n) : ∃ g c, u = .slice (some ⟨g, 0, none⟩) n c := by
 obtain ⟨hl, ⟨-, h1⟩ | ⟨g, cap, cur, rfl, -⟩⟩ := h
 · omega
 · exact ⟨g, cap, rfl⟩
theorem two_ok {P : List (Int × Int) → Prop} {l m : List (Int × Int)} (h0 : P l) (h1 : P m) : ∀ x ∈ [l, m], P x := fun x hx => by
 simp at hx
 rcases hx with rfl | rfl
 · exact h0
 · exact h1
structure TM (gn gv gf gr : Nat) (n0 n1 n2 : Int) (v va vb : Vh) (u0 u1 ut uk : Value) (l0 l1 lk : List (Int × Int)) (t : List Rq) (W : World) : Prop where
 sg : Sg3 W
 n : At W gn 27 #[.int .i64 n0, .int .i64 n1, .int .i64 n2]
 v : At W gv 32 #[.int .i64 v.hx, .int .i64 v.hy, .int .i64 v.cp, .int .i64 v.st, .int .i64 v.en]
 f : At W gf 32 #[.int .i64 va.hx, .int .i64 va.hy, .int .i64 va.cp, .int .i64 va.st, .int .i64 va.en, .int .i64 vb.hx, .int .i64 vb.hy, .int .i64 vb.cp, .int .i64 vb.st, .int .i64 vb.en]
 r : At W gr 28 #[u0, u1]
 r0 : Row W.heap.size W u0 l0
 r1 : Row W.heap.size W u1 l1
 rk : Row W.heap.size W uk lk
 t : Rqs W.heap.size W ut t
theorem TM.on {gn gv gf gr : Nat} {n0 n1 n2 : Int} {v va vb : Vh} {u0 u1 ut uk : Value} {l0 l1 lk : List (Int × Int)} {t : List Rq} {W W' : World} (h : TM gn gv gf gr n0 n1 n2 v va vb u0 u1 ut uk l0 l1 lk t W) (hb : Below W.heap.size W W') : TM gn gv gf gr n0 n1 n2 v va vb u0 u1 ut uk l0 l1 lk t W' :=
 ⟨h.sg.on hb, h.n.keep hb h.n.inside, h.v.keep hb h.v.inside, h.f.keep hb h.f.inside, h.r.keep hb h.r.inside, h.r0.on hb, h.r1.on hb, h.rk.on hb, Rqs.on h.t hb⟩
theorem odd_idx (n : Int) : ∃ K : Nat, (IntKind.u64.wrap n).tmod 8 = (K : Int) ∧ K < 8 := by
 have h : IntKind.u64.wrap n = n % 18446744073709551616 := by simp [IntKind.wrap, IntKind.bits, IntKind.signed]
 rw [h, Int.tmod_eq_emod_of_nonneg (by omega)]
 exact ⟨(n % 18446744073709551616 % 8).toNat, by omega, by omega⟩
set_option maxRecDepth 100000 in
set_option maxHeartbeats 16000000 in
theorem tells_walk (xb : Option Addr) (Nb cb : Nat) (bs : List Int) (a b c f : Int) (n0 n1 n2 : Int) (xL : Option Addr) (NL cL : Nat) (L : List (Int × Int)) (hnL : Nums L) (v : Vh) (w : World) (hsg : Sg3 w) (hrow : RowB w.heap.size w (.slice xb Nb cb) 1 (bs.map byV)) (hby : ∀ x ∈ bs, 0 ≤ x ∧ x < 256) (ha : 0 ≤ a ∧ a < 256) (hb : 0 ≤ b ∧ b < 256) (hf : 0 ≤ f ∧ f < 256) (hLr : Row w.heap.size w (.slice xL NL cL) L) :
 Calls Tryz.prog 3 #[.agg #[.slice xb Nb cb, .int .u8 a, .int .u8 b, .int .i64 c, .int .u8 f], .agg #[.int .i64 n0, .int .i64 n1, .int .i64 n2], .agg #[.slice xL NL cL, .int .i64 v.hx, .int .i64 v.hy, .int .i64 v.cp, .int .i64 v.st, .int .i64 v.en]] w fun e w' => e = .returned (.bool true) ∧ Below w.heap.size w w' := by
 obtain ⟨q, hq⟩ : ∃ q, w.heap.size = q := ⟨_, rfl⟩
 obtain ⟨w0, hw0⟩ : ∃ w0, ((w.alloc (.cells #[.slice xb Nb cb, .int .u8 a, .int .u8 b, .int .i64 c, .int .u8 f] 26)).alloc (.cells #[.int .i64 n0, .int .i64 n1, .int .i64 n2] 27)).alloc (.cells #[.slice xL NL cL, .int .i64 v.hx, .int .i64 v.hy, .int .i64 v.cp, .int .i64 v.st, .int .i64 v.en] 34) = w0 := ⟨_, rfl⟩
 have hs0 : w0.heap.size = q + 3 := by rw [← hw0]; simp [hq]
 have hb0 : Below q w w0 := by rw [← hw0]; exact (((Below.refl _ _).alloc (by omega) _).alloc (by simp; omega) _).alloc (by simp; omega) _
 have hd0 : At w0 q 26 #[.slice xb Nb cb, .int .u8 a, .int .u8 b, .int .i64 c, .int .u8 f] := by rw [← hw0]; exact ((At.new_ _ _ _ hq.symm).alloc _).alloc _
 have hi0 : At w0 (q + 1) 27 #[.int .i64 n0, .int .i64 n1, .int .i64 n2] := by rw [← hw0]; exact (At.new_ _ _ _ (by simp [hq])).alloc _
 have hy0 : At w0 (q + 2) 34 #[.slice xL NL cL, .int .i64 v.hx, .int .i64 v.hy, .int .i64 v.cp, .int .i64 v.st, .int .i64 v.en] := by rw [← hw0]; exact At.new_ _ _ _ (by simp [hq])
 have hsg0 := Lib.hid (hsg.on (by rw [hq]; exact hb0))
 obtain ⟨xL', NL', cL', eL, hNL, h0L, hcL1, hcL2⟩ := hLr.opened
 simp only [Value.slice.injEq] at eL
 obtain ⟨rfl, rfl, rfl⟩ := eL
 obtain ⟨Kl, hK1, hK2, hK3⟩ : ∃ K : Nat, min (NL : Int) 10 = (K : Int) ∧ K ≤ NL ∧ K ≤ 10 := ⟨min NL 10, by omega, by omega, by omega⟩
 have hLK0 := cutRow hLr hNL.out hK2
 have hLn : Hid (Nums (L.take Kl)) := Lib.hid (fun s hs => hnL s (List.mem_of_mem_take hs))
 have hLl : Hid ((L.take Kl).length ≤ 10) := Lib.hid (by rw [List.length_take]; omega)
 generalize L.take Kl = lk at hLK0 hLn hLl
 rw [hq] at hrow hLK0 ⊢
 have hLK : Hid (Row q w (.slice xL Kl cL) lk) := Lib.hid hLK0
 have hKc : Kl ≤ cL := by omega
 unfold maxLen at hcL2
 obtain ⟨J, hJ1, hJ2⟩ := odd_idx n1
 have hw0' := Lib.hid hw0
 have hq' := Lib.hid hq
 have hmem := Lib.hid (And.intro hrow (And.intro hby (And.intro ha (And.intro hb hf))))
 have hB0 := Lib.hid hb0
 have hd0' := Lib.hid hd0
 have hi0' := Lib.hid hi0
 have hy0' := Lib.hid hy0
 have hs0' := Lib.hid hs0
 obtain ⟨iq, hiq, hq0, hq1, hq2⟩ := info_parts info_req13
 clear hw0 hq hsg hrow hby ha hb hf hLK0 hLr hNL h0L hnL hb0 hd0 hi0 hs0
 go_enter Tryz.func3, Tryz.ntmps3
 go_upto_region 1 with fail
 try simp only [hq'.out]
 try rw [hw0'.out]
 refine Sched.wp_region_sched 6 (Kp w0.heap.size 32) (VT (B := w0.heap.size) (T := 32) [.val (.pointer (some ⟨q + 2, 1, none⟩)), .val (.agg #[.int .i64 v.hx, .int .i64 v.hy, .int .i64 v.cp, .int .i64 v.st, .int .i64 v.en]), .val (.pointer (some ⟨q + 2, 0, none⟩)), .val (.slice xL NL cL), .any, .any]) (ZV 4 5 w0.heap.size 32 #[.int .i64 0, .int .i64 0, .int .i64 0, .int .i64 0, .int .i64 0] #[.int .i64 v.hx, .int .i64 v.hy, .int .i64 v.cp, .int .i64 v.st, .int .i64 v.en]) (by kernel_rfl) (by kernel_rfl) (by kernel_rfl) (fun h1 h2 => h1.trans h2) (fun h1 h2 => VT.keep h1 h2) (Kp.new (Below.refl _ _).drew (Nat.le_refl _)) (fun _ => ZV.start) (Sched.StepsA.steps (by kernel_rfl) ?hSA) ?hQA
 case hSA =>
  simp only [List.take_succ_cons, List.take_zero]
  refine ⟨?_, ?_, ?_, ?_, ?_, ?_, trivial⟩
  · intro ys done W aa hE hn hF hD hZ hG hO
    replace hE : Kp w0.heap.size 32 w0 W := hE
    have hsz := hE.1.size
    have o5 := hO 5 (by kernel_rfl)
    replace o5 : aa.tmps[5]? = some (.pointer (some ⟨q + 2, 0, none⟩)) := o5
    go_wp2_with fail
    exact ⟨_, rfl, Kp.new (Below.refl _ _) hsz, VT.val rfl rfl, hZ.light (by decide) (by decide) (Below.refl _ _)⟩
  · intro ys done W aa hE hn hF hD hZ hG hO
    replace hE : Kp w0.heap.size 32 w0 W := hE
    have hsz := hE.1.size
    have v0 := (hF 0 (by decide) (hD 0 (by kernel_rfl))).eq rfl
    have g0 := hG 0 13 rfl (Nat.le_of_ble_eq_true rfl)
    rw [v0] at g0
    have hAt := hy0.keep hE.1 hy0.inside
    have p0 := hAt.cell 0
    have p1 := hAt.cell 1
    have p2 := hAt.cell 2
    have p3 := hAt.cell 3
    have p4 := hAt.cell 4
    have p5 := hAt.cell 5
    simp at p0 p1 p2 p3 p4 p5
    clear hAt
    go_wp2_with fail
    exact ⟨_, rfl, Kp.new (Below.refl _ _) hsz, VT.val rfl rfl, hZ.light (by decide) (by decide) (Below.refl _ _)⟩
  · intro ys done W aa hE hn hF hD hZ hG hO
    replace hE : Kp w0.heap.size 32 w0 W := hE
    have hsz := hE.1.size
    have o5 := hO 5 (by kernel_rfl)
    replace o5 : aa.tmps[5]? = some (.pointer (some ⟨q + 2, 0, none⟩)) := o5
    go_wp2_with fail
    exact ⟨_, rfl, Kp.new (Below.refl _ _) hsz, VT.val rfl rfl, hZ.light (by decide) (by decide) (Below.refl _ _)⟩
  · intro ys done W aa hE hn hF hD hZ hG hO
    replace hE : Kp w0.heap.size 32 w0 W := hE
    have hsz := hE.1.size
    have v2 := (hF 2 (by decide) (hD 2 (by kernel_rfl))).eq rfl
    have g2 := hG 2 15 rfl (Nat.le_of_ble_eq_true rfl)
    rw [v2] at g2
    have hAt := hy0.keep hE.1 hy0.inside
    have p0 := hAt.cell 0
    have p1 := hAt.cell 1
    have p2 := hAt.cell 2
    have p3 := hAt.cell 3
    have p4 := hAt.cell 4
    have p5 := hAt.cell 5
    simp at p0 p1 p2 p3 p4 p5
    clear hAt
    go_wp2_with fail
    exact ⟨_, rfl, Kp.new (Below.refl _ _) hsz, VT.val rfl rfl, hZ.light (by decide) (by decide) (Below.refl _ _)⟩
  · intro ys done W aa hE hn hF hD hZ hG hO
    replace hE : Kp w0.heap.size 32 w0 W := hE
    have hsz := hE.1.size
    go_wp2_with fail
    exact ⟨_, rfl, Kp.new ((Below.refl _ _).alloc (Nat.le_refl _) _) hsz, VT.any rfl, hZ.lay hn (by decide) (At.new _ _ _) hsz⟩
  · intro ys done W aa hE hn hF hD hZ hG hO
    replace hE : Kp w0.heap.size 32 w0 W := hE
    have hsz := hE.1.size
    have v1 := (hF 1 (by decide) (hD 1 (by kernel_rfl))).eq rfl
    have g1 := hG 1 14 rfl (Nat.le_of_ble_eq_true rfl)
    rw [v1] at g1
    obtain ⟨g, e4, hg4, hA⟩ := hZ.at0 (hD 4 (by kernel_rfl)) hn
    have g4 := hG 4 7 rfl (Nat.le_of_ble_eq_true rfl)
    rw [e4] at g4
    have z0 := hA.cell 0
    have z1 := hA.cell 1
    have z2 := hA.cell 2
    have z3 := hA.cell 3
    have z4 := hA.cell 4
    have zf := hA.free
    simp at z0 z1 z2 z3 z4
    have k1 := Kp.put hA hg4 0 (.int .i64 v.hx)
    have A1 := hA.put 0 (.int .i64 v.hx)
    have k2 := Kp.put A1 hg4 1 (.int .i64 v.hy)
    have A2 := A1.put 1 (.int .i64 v.hy)
    have k3 := Kp.put A2 hg4 2 (.int .i64 v.cp)
    have A3 := A2.put 2 (.int .i64 v.cp)
    have k4 := Kp.put A3 hg4 3 (.int .i64 v.st)
    have A4 := A3.put 3 (.int .i64 v.st)
    have k5 := Kp.put A4 hg4 4 (.int .i64 v.en)
    have A5 := A4.put 4 (.int .i64 v.en)
    have kk := Lib.hid ((((k1.trans k2).trans k3).trans k4).trans k5)
    have hp := Lib.hid (hZ.put (v := undef) (hD 4 (by kernel_rfl)) (by decide) e4 (by simpa using A5) hg4)
    clear k1 k2 k3 k4 k5 A1 A2 A3 A4 A5 hA
    go_wp2_with fail
    exact ⟨kk.out, undef, VT.any rfl, hp.out⟩
 case hQA =>
  intro ys w1 hE hF hZ
  replace hE : Kp w0.heap.size 32 w0 w1 := hE
  have v3 := (hF 3 (by decide)).eq rfl
  obtain ⟨dn, hdn, hZ⟩ := hZ
  obtain ⟨gv, e4, hgv, hA1⟩ := hZ.at1 (hdn 4 (by decide)) (hdn 5 (by decide))
  simp only [List.take_succ_cons, List.take_zero, List.drop_succ_cons, List.drop_zero, Sched.fill, v3, e4]
  have hE1 := Lib.hid hE.1
  have hA1' := Lib.hid hA1
  clear hF v3 e4 hA1 hE hy0 hZ
  go_simp
  go_upto_region 2 with fail
  have hB1 := Lib.hid (hB0.out.trans (hE1.out.mono (by have := hs0'.out; omega)))
  have hs1 : q + 3 ≤ w1.heap.size := by have := hE1.out.size; have := hs0'.out; omega
  have hd1 := hd0'.out.keep hE1.out hd0'.out.inside
  have hsg1 := hsg0.out.on hE1.out
  have hi1 := hi0'.out.keep hE1.out hi0'.out.inside
  have hk1 : Row w1.heap.size w1 (.slice xL Kl cL) lk := (RowB.keep hLK.out hB1.out (Nat.le_refl _)).more (by omega)
  have hPt := parts14_any xb Nb cb bs a b c f w1 ((RowB.keep hmem.out.1 hB1.out (Nat.le_refl _)).more (by omega)) hmem.out.2.1 hmem.out.2.2.1 hmem.out.2.2.2.1 hmem.out.2.2.2.2
  have c0 := hd1.cell 0
  have c1 := hd1.cell 1
  have c2 := hd1.cell 2
  have c3 := hd1.cell 3
  have c4 := hd1.cell 4
  simp at c0 c1 c2 c3 c4
  have hdi := hd1.inside
  have hi1' := Lib.hid hi1
  have hk1' := Lib.hid hk1
  have hsg1' := Lib.hid hsg1
  clear hd1 hi1 hk1 hsg1 hmem hsg0 hE1 hB0 hd0' hi0' hy0' hLK
  go_wp2_with fail
  refine hPt.mono ?_
  clear hPt c0 c1 c2 c3 c4 hdi
  rintro e w2 ⟨⟨gf, gr, ut, u0, u1, va, vb, l0, l1, t, rfl, hPa⟩, hb2⟩
  have htl := hPa.tl
  obtain ⟨gt, ct, rfl⟩ := own_some hPa.ot (by omega)
  obtain ⟨xu0, cu0, rfl, -, -⟩ := owns_slice hPa.o0
  obtain ⟨xu1, cu1, rfl, -, -⟩ := owns_slice hPa.o1
  have hTM2 : TM (q + 1) gv gf gr n0 n1 n2 v va vb (.slice xu0 l0.length cu0) (.slice xu1 l1.length cu1) (.slice (some ⟨gt, 0, none⟩) t.length ct) (.slice xL Kl cL) l0 l1 lk t w2 :=
   ⟨hsg1'.out.on hb2, hi1'.out.keep hb2 hi1'.out.inside, hA1'.out.keep hb2 hA1'.out.inside, hPa.fl, hPa.rt, Row.of_owns hPa.o0 rfl (Nat.le_refl _), Row.of_owns hPa.o1 rfl (Nat.le_refl _), hk1'.out.on hb2, hPa.mem.2.2⟩
  have hl0 : Hid (l0.length ≤ 100 ∧ Nums l0) := Lib.hid ⟨by have := hPa.ln; omega, hPa.nm.1⟩
  have hl1 : Hid (l1.length ≤ 100 ∧ Nums l1) := Lib.hid ⟨by have := hPa.ln; omega, hPa.nm.2⟩
  have hlk : Hid (lk.length ≤ 100 ∧ Nums lk) := Lib.hid ⟨by have := hLl.out; omega, hLn.out⟩
  have hB2 := Lib.hid (hB1.out.trans (hb2.mono (by omega)))
  have hs2 : q ≤ w2.heap.size := by have := hb2.size; omega
  have ht8 := Lib.hid htl
  rw [htl] at hTM2 ⊢
  have hTM := Lib.hid hTM2
  have hqf := Lib.hid (rqs_flat hTM2.t)
  clear hPa hTM2 hb2 hB1 hs1 hsg1' hi1' hA1' hk1' htl hLl hLn
  go_upto_region 4 with (at_builtin; refine wpList_append_fresh rfl _ _ 37 rfl w2.heap.size 43 iq (.agg #[.int .i64 0, .int .i64 0, .int .i64 0, .int .i64 0, .int .i64 0, .int .i64 0, .int .i64 0, .int .i64 0, .int .i64 0, .int .i64 0]) 10 80 Tryz.underlying37 hiq hq0 hq1 hq2 rfl (by decide) w2.heap.size rfl (ownsEmptyQ rfl (Nat.le_refl _)) (.slice (some ⟨gt, 0, none⟩) 8 ct) 8 ⟨_, _, rfl⟩ (.inr ⟨_, _, _, rfl⟩) (When.flatQ t) rfl (by rw [flatQ_length, ht8.out]) (fun ad c e j u hj => by cases e; exact Lib.cell?_alloc_some _ (hqf.out j u hj)) flatQ_one (by decide) (by decide) (by simp) ?_; intro v4 w4 hv4 hb4)
  obtain ⟨go, co, rfl, hc1, hc2, hO4⟩ := OddAt.of hv4 (by decide) (((Below.refl _ w2).alloc (Nat.le_refl _) (.cells #[] 43)).trans (hb4.mono (by simp)))
  have hTM4 := hTM.out.on hO4.b
  obtain ⟨qJ, hqJ⟩ : ∃ qJ, t[J]? = some qJ := ⟨t[J]'(by rw [ht8.out]; exact hJ2), List.getElem?_eq_getElem _⟩
  obtain ⟨uz, z⟩ := hO4.cell (J * 10 + 7) (by have h1 : (t.map rqV).flatten.length = t.length * 10 := flatQ_length t; rw [h1, ht8.out]; omega)
  have zf := hO4.free (J * 10 + 7)
  have i0 := hTM4.n.cell 0
  have i1 := hTM4.n.cell 1
  have i2 := hTM4.n.cell 2
  simp at i0 i1 i2
  have hni := hTM4.n.inside
  have hgo := hO4.inside
  have hsf := Lib.hid (set_flat n2 t J qJ hqJ)
  have hO4' := Lib.hid hO4
  have hc1' := Lib.hid hc1
  have hc2' := Lib.hid hc2
  have hJ2i : (J : Int) < 8 := by omega
  clear hv4 hb4 hTM4 hO4 hqJ hc2
  go_upto_region 5 with fail
  have hO5 := hO4'.out.put (J * 10 + 7) (.int .i64 n2) hsf.out
  clear z zf i0 i1 i2 hni hgo hO4' hsf
  generalize w4.setCell ⟨go, J * 10 + 7, none⟩ (.int .i64 n2) = w5 at hO5 ⊢
  have hTM5 := Lib.hid (hTM.out.on hO5.b)
  have hB5 := Lib.hid (hB2.out.trans (hO5.b.mono hs2))
  have hs5 : q ≤ w5.heap.size := Nat.le_trans hs2 hO5.b.size
  obtain ⟨t2, ht2⟩ : ∃ t2, t.set J (dropQ qJ n2) = t2 := ⟨_, rfl⟩
  have ht28 : Hid (t2.length = 8) := Lib.hid (by rw [← ht2, List.length_set]; exact ht8.out)
  rw [ht2] at hO5
  have hOd := Lib.hid (hO5.rqs ht28.out hc1'.out hc2'.out)
  clear hO5 hTM hB2 ht2 hs2
  go_upto_region 6 with fail
  refine Sched.wp_region_sched 54 (fun W W' => Below W.heap.size W W') (VK [.val (.slice (some ⟨gf, 0, none⟩) 2 2), .val (.slice (some ⟨gr, 0, none⟩) 2 2), .val (.slice (some ⟨gt, 0, none⟩) 8 ct), .val (.pointer (some ⟨q + 1, 0, none⟩)), .val (.int .i64 n0), .val (.bool true), .val (.bool true), .val (.slice (some ⟨gf, 0, none⟩) 2 2), .val (.slice (some ⟨gr, 0, none⟩) 2 2), .val (.slice (some ⟨go, 0, none⟩) 8 co), .val (.bool true), .val (.bool true), .val (.bool true), .val (.slice (some ⟨gf, 0, none⟩) 2 2), .val (.slice (some ⟨gr, 0, none⟩) 2 2), .val (.pointer (some ⟨gr, 0, none⟩)), .val (.slice xu0 l0.length cu0), .val (.slice xL Kl cL), .of (fun x w => ∃ g : Nat, x = .slice (some ⟨g, 0, none⟩) 2 2 ∧ At w g 28 #[.slice xu0 l0.length cu0, .slice xL Kl cL]) (fun ⟨g, e, h⟩ hb => ⟨g, e, h.keep hb h.inside⟩), .val (.slice (some ⟨gt, 0, none⟩) 8 ct), .val (.bool true), .val (.bool true), .val (.bool true), .val (.agg #[.int .i64 v.hx, .int .i64 v.hy, .int .i64 v.cp, .int .i64 v.st, .int .i64 v.en]), .val (.slice (some ⟨gf, 0, none⟩) 2 2), .val (.pointer (some ⟨gf, 0, none⟩)), .val (.agg #[.int .i64 va.hx, .int .i64 va.hy, .int .i64 va.cp, .int .i64 va.st, .int .i64 va.en]), .of (fun x w => ∃ g : Nat, x = .slice (some ⟨g, 0, none⟩) 2 2 ∧ At w g 32 #[.int .i64 v.hx, .int .i64 v.hy, .int .i64 v.cp, .int .i64 v.st, .int .i64 v.en, .int .i64 va.hx, .int .i64 va.hy, .int .i64 va.cp, .int .i64 va.st, .int .i64 va.en]) (fun ⟨g, e, h⟩ hb => ⟨g, e, h.keep hb h.inside⟩), .val (.slice (some ⟨gr, 0, none⟩) 2 2), .val (.slice (some ⟨gt, 0, none⟩) 8 ct), .val (.bool true), .val (.bool true), .val (.bool true), .val (.slice (some ⟨gf, 0, none⟩) 2 2), .val (.slice (some ⟨gf, 0, none⟩) 1 2), .val (.slice (some ⟨gr, 0, none⟩) 2 2), .val (.slice (some ⟨gt, 0, none⟩) 8 ct), .val (.bool true), .val (.bool true), .val (.bool true), .val (.slice (some ⟨gf, 0, none⟩) 2 2), .val (.slice (some ⟨gr, 0, none⟩) 2 2), .val (.pointer (some ⟨gr, 0, none⟩)), .val (.slice xu0 l0.length cu0), .val (.slice (some ⟨gr, 0, none⟩) 2 2), .val (.pointer (some ⟨gr, 0, none⟩)), .val (.slice xu0 l0.length cu0), .of (fun x w => ∃ g : Nat, x = .slice (some ⟨g, 0, none⟩) 2 2 ∧ At w g 28 #[.slice xu0 l0.length cu0, .slice xu0 l0.length cu0]) (fun ⟨g, e, h⟩ hb => ⟨g, e, h.keep hb h.inside⟩), .val (.slice (some ⟨gt, 0, none⟩) 8 ct), .val (.bool true), .val (.bool true), .val (.bool true), .val (.bool true), .val (.bool true)]) (fun _ _ _ => True) (by kernel_rfl) (by kernel_rfl) (by kernel_rfl) (fun h1 h2 => belowTr h1 h2) (fun h1 h2 => VK.keep h1 h2) (Below.refl _ _).drew (fun _ => trivial) (Sched.StepsA.steps (by kernel_rfl) ?hSB) ?hQB
  case hSB =>
   simp only [List.take_succ_cons, List.take_zero]
   refine ⟨?_, ?_, ?_, ?_, ?_, ?_, ?_, ?_, ?_, ?_, ?_, ?_, ?_, ?_, ?_, ?_, ?_, ?_, ?_, ?_, ?_, ?_, ?_, ?_, ?_, ?_, ?_, ?_, ?_, ?_, ?_, ?_, ?_, ?_, ?_, ?_, ?_, ?_, ?_, ?_, ?_, ?_, ?_, ?_, ?_, ?_, ?_, ?_, ?_, ?_, ?_, ?_, ?_, ?_, trivial⟩
   · intro ys done W aa hE hn hF hD hZ hG hO
     replace hE : Below w5.heap.size w5 W := hE
     have o9 := hO 9 (by kernel_rfl)
     replace o9 : aa.tmps[9]? = some (.slice (some ⟨gf, 0, none⟩) 2 2) := o9
     go_wp2_with fail
     first | exact ⟨_, rfl, Below.refl _ _, VK.val rfl rfl, trivial⟩ | exact ⟨_, rfl, Below.refl _ _, VK.val rfl rfl⟩
   · intro ys done W aa hE hn hF hD hZ hG hO
     replace hE : Below w5.heap.size w5 W := hE
     have o10 := hO 10 (by kernel_rfl)
     replace o10 : aa.tmps[10]? = some (.slice (some ⟨gr, 0, none⟩) 2 2) := o10
     go_wp2_with fail
     first | exact ⟨_, rfl, Below.refl _ _, VK.val rfl rfl, trivial⟩ | exact ⟨_, rfl, Below.refl _ _, VK.val rfl rfl⟩
   · intro ys done W aa hE hn hF hD hZ hG hO
     replace hE : Below w5.heap.size w5 W := hE
     have o11 := hO 11 (by kernel_rfl)
     replace o11 : aa.tmps[11]? = some (.slice (some ⟨gt, 0, none⟩) 8 ct) := o11
     go_wp2_with fail
     first | exact ⟨_, rfl, Below.refl _ _, VK.val rfl rfl, trivial⟩ | exact ⟨_, rfl, Below.refl _ _, VK.val rfl rfl⟩
   · intro ys done W aa hE hn hF hD hZ hG hO
     replace hE : Below w5.heap.size w5 W := hE
     have o4 := hO 4 (by kernel_rfl)
     replace o4 : aa.tmps[4]? = some (.pointer (some ⟨q + 1, 0, none⟩)) := o4
     go_wp2_with fail
     first | exact ⟨_, rfl, Below.refl _ _, VK.val rfl rfl, trivial⟩ | exact ⟨_, rfl, Below.refl _ _, VK.val rfl rfl⟩
   · intro ys done W aa hE hn hF hD hZ hG hO
     replace hE : Below w5.heap.size w5 W := hE
     have v3 := (hF 3 (by decide) (hD 3 (by kernel_rfl))).eq rfl
     have g3 := hG 3 45 rfl (Nat.le_of_ble_eq_true rfl)
     rw [v3] at g3
     have hTW := hTM5.out.on hE
     have hAt := hTW.n
     have p0 := hAt.cell 0
     simp at p0
     have hAi := hAt.inside
     clear hAt hTW
     go_wp2_with fail
     first | exact ⟨_, rfl, Below.refl _ _, VK.val rfl rfl, trivial⟩ | exact ⟨_, rfl, Below.refl _ _, VK.val rfl rfl⟩
   · intro ys done W aa hE hn hF hD hZ hG hO
     replace hE : Below w5.heap.size w5 W := hE
     have v0 := (hF 0 (by decide) (hD 0 (by kernel_rfl))).eq rfl
     have g0 := hG 0 42 rfl (Nat.le_of_ble_eq_true rfl)
     rw [v0] at g0
     have v1 := (hF 1 (by decide) (hD 1 (by kernel_rfl))).eq rfl
     have g1 := hG 1 43 rfl (Nat.le_of_ble_eq_true rfl)
     rw [v1] at g1
     have v2 := (hF 2 (by decide) (hD 2 (by kernel_rfl))).eq rfl
     have g2 := hG 2 44 rfl (Nat.le_of_ble_eq_true rfl)
     rw [v2] at g2
     have v4 := (hF 4 (by decide) (hD 4 (by kernel_rfl))).eq rfl
     have g4 := hG 4 46 rfl (Nat.le_of_ble_eq_true rfl)
     rw [v4] at g4
     have hTW := hTM5.out.on hE
     go_wp2_with fail
     refine (t_any hTW.sg [va, vb] t [l0, l1] n0 (two_cars hTW.f).1 (two_rows hTW.r hTW.r0 hTW.r1) hTW.t (two_ok hl0.out hl1.out) (by rw [ht8.out]; decide)).mono ?_
     rintro e W' ⟨rfl, hb'⟩
     replace hb' := Lib.hid hb'
     go_wp2_with fail
     first | exact ⟨_, rfl, hb'.out, VK.val rfl rfl, trivial⟩ | exact ⟨_, rfl, hb'.out, VK.val rfl rfl⟩
   · intro ys done W aa hE hn hF hD hZ hG hO
     replace hE : Below w5.heap.size w5 W := hE
     have v5 := (hF 5 (by decide) (hD 5 (by kernel_rfl))).eq rfl
     have g5 := hG 5 47 rfl (Nat.le_of_ble_eq_true rfl)
     rw [v5] at g5
     go_wp2_with fail
     first | exact ⟨_, rfl, Below.refl _ _, VK.val rfl rfl, trivial⟩ | exact ⟨_, rfl, Below.refl _ _, VK.val rfl rfl⟩
   · intro ys done W aa hE hn hF hD hZ hG hO
     replace hE : Below w5.heap.size w5 W := hE
     have v6 := (hF 6 (by decide) (hD 6 (by kernel_rfl))).eq rfl
     have g6 := hG 6 48 rfl (Nat.le_of_ble_eq_true rfl)
     rw [v6] at g6
     refine BigFrame.wpList_want (by simp [Region.wanted, yielded, g6]) ?_
     intro K hK
     have o9 := hO 9 (by kernel_rfl)
     replace o9 : aa.tmps[9]? = some (.slice (some ⟨gf, 0, none⟩) 2 2) := o9
     go_wp2_with fail
     first | exact ⟨_, rfl, Below.refl _ _, VK.val rfl rfl, trivial⟩ | exact ⟨_, rfl, Below.refl _ _, VK.val rfl rfl⟩
   · intro ys done W aa hE hn hF hD hZ hG hO
     replace hE : Below w5.heap.size w5 W := hE
     have v6 := (hF 6 (by decide) (hD 6 (by kernel_rfl))).eq rfl
     have g6 := hG 6 48 rfl (Nat.le_of_ble_eq_true rfl)
     rw [v6] at g6
     refine BigFrame.wpList_want (by simp [Region.wanted, yielded, g6]) ?_
     intro K hK
     have o10 := hO 10 (by kernel_rfl)
     replace o10 : aa.tmps[10]? = some (.slice (some ⟨gr, 0, none⟩) 2 2) := o10
     go_wp2_with fail
     first | exact ⟨_, rfl, Below.refl _ _, VK.val rfl rfl, trivial⟩ | exact ⟨_, rfl, Below.refl _ _, VK.val rfl rfl⟩
   · intro ys done W aa hE hn hF hD hZ hG hO
     replace hE : Below w5.heap.size w5 W := hE
     have v6 := (hF 6 (by decide) (hD 6 (by kernel_rfl))).eq rfl
     have g6 := hG 6 48 rfl (Nat.le_of_ble_eq_true rfl)
     rw [v6] at g6
     refine BigFrame.wpList_want (by simp [Region.wanted, yielded, g6]) ?_
     intro K hK
     have o12 := hO 12 (by kernel_rfl)
     replace o12 : aa.tmps[12]? = some (.slice (some ⟨go, 0, none⟩) 8 co) := o12
     go_wp2_with fail
     first | exact ⟨_, rfl, Below.refl _ _, VK.val rfl rfl, trivial⟩ | exact ⟨_, rfl, Below.refl _ _, VK.val rfl rfl⟩
   · intro ys done W aa hE hn hF hD hZ hG hO
     replace hE : Below w5.heap.size w5 W := hE
     have v6 := (hF 6 (by decide) (hD 6 (by kernel_rfl))).eq rfl
     have g6 := hG 6 48 rfl (Nat.le_of_ble_eq_true rfl)
     rw [v6] at g6
     refine BigFrame.wpList_want (by simp [Region.wanted, yielded, g6]) ?_
     intro K hK
     have v7 := (hF 7 (by decide) (hD 7 (by kernel_rfl))).eq rfl
     have g7 := hG 7 49 rfl (Nat.le_of_ble_eq_true rfl)
     rw [v7] at g7
     have v8 := (hF 8 (by decide) (hD 8 (by kernel_rfl))).eq rfl
     have g8 := hG 8 50 rfl (Nat.le_of_ble_eq_true rfl)
     rw [v8] at g8
     have v9 := (hF 9 (by decide) (hD 9 (by kernel_rfl))).eq rfl
     have g9 := hG 9 51 rfl (Nat.le_of_ble_eq_true rfl)
     rw [v9] at g9
     have hTW := hTM5.out.on hE
     go_wp2_with fail
     refine (t_any hTW.sg [va, vb] t2 [l0, l1] 7 (two_cars hTW.f).1 (two_rows hTW.r hTW.r0 hTW.r1) (Rqs.on hOd.out hE) (two_ok hl0.out hl1.out) (by rw [ht28.out]; decide)).mono ?_
     rintro e W' ⟨rfl, hb'⟩
     replace hb' := Lib.hid hb'
     go_wp2_with fail
     first | exact ⟨_, rfl, hb'.out, VK.val rfl rfl, trivial⟩ | exact ⟨_, rfl, hb'.out, VK.val rfl rfl⟩
   · intro ys done W aa hE hn hF hD hZ hG hO
     replace hE : Below w5.heap.size w5 W := hE
     have v6 := (hF 6 (by decide) (hD 6 (by kernel_rfl))).eq rfl
     have g6 := hG 6 48 rfl (Nat.le_of_ble_eq_true rfl)
     rw [v6] at g6
     have v10 := (hF 10 (by decide) (hD 10 (by kernel_rfl))).eq rfl
     have g10 := hG 10 52 rfl (Nat.le_of_ble_eq_true rfl)
     rw [v10] at g10
     go_wp2_with fail
     first | exact ⟨_, rfl, Below.refl _ _, VK.val rfl rfl, trivial⟩ | exact ⟨_, rfl, Below.refl _ _, VK.val rfl rfl⟩
   · intro ys done W aa hE hn hF hD hZ hG hO
     replace hE : Below w5.heap.size w5 W := hE
     have v11 := (hF 11 (by decide) (hD 11 (by kernel_rfl))).eq rfl
     have g11 := hG 11 53 rfl (Nat.le_of_ble_eq_true rfl)
     rw [v11] at g11
     go_wp2_with fail
     first | exact ⟨_, rfl, Below.refl _ _, VK.val rfl rfl, trivial⟩ | exact ⟨_, rfl, Below.refl _ _, VK.val rfl rfl⟩
   · intro ys done W aa hE hn hF hD hZ hG hO
     replace hE : Below w5.heap.size w5 W := hE
     have v12 := (hF 12 (by decide) (hD 12 (by kernel_rfl))).eq rfl
     have g12 := hG 12 54 rfl (Nat.le_of_ble_eq_true rfl)
     rw [v12] at g12
     refine BigFrame.wpList_want (by simp [Region.wanted, yielded, g12]) ?_
     intro K hK
     have o9 := hO 9 (by kernel_rfl)
     replace o9 : aa.tmps[9]? = some (.slice (some ⟨gf, 0, none⟩) 2 2) := o9
     go_wp2_with fail
     first | exact ⟨_, rfl, Below.refl _ _, VK.val rfl rfl, trivial⟩ | exact ⟨_, rfl, Below.refl _ _, VK.val rfl rfl⟩
   · intro ys done W aa hE hn hF hD hZ hG hO
     replace hE : Below w5.heap.size w5 W := hE
     have v12 := (hF 12 (by decide) (hD 12 (by kernel_rfl))).eq rfl
     have g12 := hG 12 54 rfl (Nat.le_of_ble_eq_true rfl)
     rw [v12] at g12
     refine BigFrame.wpList_want (by simp [Region.wanted, yielded, g12]) ?_
     intro K hK
     have o10 := hO 10 (by kernel_rfl)
     replace o10 : aa.tmps[10]? = some (.slice (some ⟨gr, 0, none⟩) 2 2) := o10
     go_wp2_with fail
     first | exact ⟨_, rfl, Below.refl _ _, VK.val rfl rfl, trivial⟩ | exact ⟨_, rfl, Below.refl _ _, VK.val rfl rfl⟩
   · intro ys done W aa hE hn hF hD hZ hG hO
     replace hE : Below w5.heap.size w5 W := hE
     have v12 := (hF 12 (by decide) (hD 12 (by kernel_rfl))).eq rfl
     have g12 := hG 12 54 rfl (Nat.le_of_ble_eq_true rfl)
     rw [v12] at g12
     refine BigFrame.wpList_want (by simp [Region.wanted, yielded, g12]) ?_
     intro K hK
     have v14 := (hF 14 (by decide) (hD 14 (by kernel_rfl))).eq rfl
     have g14 := hG 14 56 rfl (Nat.le_of_ble_eq_true rfl)
     rw [v14] at g14
     go_wp2_with fail
     first | exact ⟨_, rfl, Below.refl _ _, VK.val rfl rfl, trivial⟩ | exact ⟨_, rfl, Below.refl _ _, VK.val rfl rfl⟩
   · intro ys done W aa hE hn hF hD hZ hG hO
     replace hE : Below w5.heap.size w5 W := hE
     have v12 := (hF 12 (by decide) (hD 12 (by kernel_rfl))).eq rfl
     have g12 := hG 12 54 rfl (Nat.le_of_ble_eq_true rfl)
     rw [v12] at g12
     refine BigFrame.wpList_want (by simp [Region.wanted, yielded, g12]) ?_
     intro K hK
     have v15 := (hF 15 (by decide) (hD 15 (by kernel_rfl))).eq rfl
     have g15 := hG 15 57 rfl (Nat.le_of_ble_eq_true rfl)
     rw [v15] at g15
     have hTW := hTM5.out.on hE
     have hAt := hTW.r
     have p0 := hAt.cell 0
     simp at p0
     have hAi := hAt.inside
     clear hAt hTW
     go_wp2_with fail
     first | exact ⟨_, rfl, Below.refl _ _, VK.val rfl rfl, trivial⟩ | exact ⟨_, rfl, Below.refl _ _, VK.val rfl rfl⟩
   · intro ys done W aa hE hn hF hD hZ hG hO
     replace hE : Below w5.heap.size w5 W := hE
     have v12 := (hF 12 (by decide) (hD 12 (by kernel_rfl))).eq rfl
     have g12 := hG 12 54 rfl (Nat.le_of_ble_eq_true rfl)
     rw [v12] at g12
     refine BigFrame.wpList_want (by simp [Region.wanted, yielded, g12]) ?_
     intro K hK
     have o8 := hO 8 (by kernel_rfl)
     replace o8 : aa.tmps[8]? = some (.slice xL Kl cL) := o8
     go_wp2_with fail
     first | exact ⟨_, rfl, Below.refl _ _, VK.val rfl rfl, trivial⟩ | exact ⟨_, rfl, Below.refl _ _, VK.val rfl rfl⟩
   · intro ys done W aa hE hn hF hD hZ hG hO
     replace hE : Below w5.heap.size w5 W := hE
     have v12 := (hF 12 (by decide) (hD 12 (by kernel_rfl))).eq rfl
     have g12 := hG 12 54 rfl (Nat.le_of_ble_eq_true rfl)
     rw [v12] at g12
     refine BigFrame.wpList_want (by simp [Region.wanted, yielded, g12]) ?_
     intro K hK
     have v16 := (hF 16 (by decide) (hD 16 (by kernel_rfl))).eq rfl
     have g16 := hG 16 58 rfl (Nat.le_of_ble_eq_true rfl)
     rw [v16] at g16
     have v17 := (hF 17 (by decide) (hD 17 (by kernel_rfl))).eq rfl
     have g17 := hG 17 59 rfl (Nat.le_of_ble_eq_true rfl)
     rw [v17] at g17
     go_wp2_with fail
     first | exact ⟨_, rfl, (Below.refl _ _).alloc (Nat.le_refl _) _, VK.of rfl ⟨_, rfl, At.new _ _ _⟩, trivial⟩ | exact ⟨_, rfl, (Below.refl _ _).alloc (Nat.le_refl _) _, VK.of rfl ⟨_, rfl, At.new _ _ _⟩⟩
   · intro ys done W aa hE hn hF hD hZ hG hO
     replace hE : Below w5.heap.size w5 W := hE
     have v12 := (hF 12 (by decide) (hD 12 (by kernel_rfl))).eq rfl
     have g12 := hG 12 54 rfl (Nat.le_of_ble_eq_true rfl)
     rw [v12] at g12
     refine BigFrame.wpList_want (by simp [Region.wanted, yielded, g12]) ?_
     intro K hK
     have o11 := hO 11 (by kernel_rfl)
     replace o11 : aa.tmps[11]? = some (.slice (some ⟨gt, 0, none⟩) 8 ct) := o11
     go_wp2_with fail
     first | exact ⟨_, rfl, Below.refl _ _, VK.val rfl rfl, trivial⟩ | exact ⟨_, rfl, Below.refl _ _, VK.val rfl rfl⟩
   · intro ys done W aa hE hn hF hD hZ hG hO
     replace hE : Below w5.heap.size w5 W := hE
     have v12 := (hF 12 (by decide) (hD 12 (by kernel_rfl))).eq rfl
     have g12 := hG 12 54 rfl (Nat.le_of_ble_eq_true rfl)
     rw [v12] at g12
     refine BigFrame.wpList_want (by simp [Region.wanted, yielded, g12]) ?_
     intro K hK
     have v13 := (hF 13 (by decide) (hD 13 (by kernel_rfl))).eq rfl
     have g13 := hG 13 55 rfl (Nat.le_of_ble_eq_true rfl)
     rw [v13] at g13
     have v18 := (hF 18 (by decide) (hD 18 (by kernel_rfl))).get rfl
     have g18 := hG 18 60 rfl (Nat.le_of_ble_eq_true rfl)
     have v19 := (hF 19 (by decide) (hD 19 (by kernel_rfl))).eq rfl
     have g19 := hG 19 61 rfl (Nat.le_of_ble_eq_true rfl)
     rw [v19] at g19
     have hTW := hTM5.out.on hE
     obtain ⟨gm, em, hAm⟩ := v18
     rw [em] at g18
     go_wp2_with fail
     refine (t_any hTW.sg [va, vb] t [l0, lk] 7 (two_cars hTW.f).1 (two_rows hAm hTW.r0 hTW.rk) hTW.t (two_ok hl0.out hlk.out) (by rw [ht8.out]; decide)).mono ?_
     rintro e W' ⟨rfl, hb'⟩
     replace hb' := Lib.hid hb'
     go_wp2_with fail
     first | exact ⟨_, rfl, hb'.out, VK.val rfl rfl, trivial⟩ | exact ⟨_, rfl, hb'.out, VK.val rfl rfl⟩
   · intro ys done W aa hE hn hF hD hZ hG hO
     replace hE : Below w5.heap.size w5 W := hE
     have v12 := (hF 12 (by decide) (hD 12 (by kernel_rfl))).eq rfl
     have g12 := hG 12 54 rfl (Nat.le_of_ble_eq_true rfl)
     rw [v12] at g12
     have v20 := (hF 20 (by decide) (hD 20 (by kernel_rfl))).eq rfl
     have g20 := hG 20 62 rfl (Nat.le_of_ble_eq_true rfl)
     rw [v20] at g20
     go_wp2_with fail
     first | exact ⟨_, rfl, Below.refl _ _, VK.val rfl rfl, trivial⟩ | exact ⟨_, rfl, Below.refl _ _, VK.val rfl rfl⟩
   · intro ys done W aa hE hn hF hD hZ hG hO
     replace hE : Below w5.heap.size w5 W := hE
     have v21 := (hF 21 (by decide) (hD 21 (by kernel_rfl))).eq rfl
     have g21 := hG 21 63 rfl (Nat.le_of_ble_eq_true rfl)
     rw [v21] at g21
     go_wp2_with fail
     first | exact ⟨_, rfl, Below.refl _ _, VK.val rfl rfl, trivial⟩ | exact ⟨_, rfl, Below.refl _ _, VK.val rfl rfl⟩
   · intro ys done W aa hE hn hF hD hZ hG hO
     replace hE : Below w5.heap.size w5 W := hE
     have v22 := (hF 22 (by decide) (hD 22 (by kernel_rfl))).eq rfl
     have g22 := hG 22 64 rfl (Nat.le_of_ble_eq_true rfl)
     rw [v22] at g22
     refine BigFrame.wpList_want (by simp [Region.wanted, yielded, g22]) ?_
     intro K hK
     have o7 := hO 7 (by kernel_rfl)
     replace o7 : aa.tmps[7]? = some (.pointer (some ⟨gv, 0, none⟩)) := o7
     have hTW := hTM5.out.on hE
     have hAt := hTW.v
     have p0 := hAt.cell 0
     have p1 := hAt.cell 1
     have p2 := hAt.cell 2
     have p3 := hAt.cell 3
     have p4 := hAt.cell 4
     simp at p0 p1 p2 p3 p4
     have hAi := hAt.inside
     clear hAt hTW
     go_wp2_with fail
     first | exact ⟨_, rfl, Below.refl _ _, VK.val rfl rfl, trivial⟩ | exact ⟨_, rfl, Below.refl _ _, VK.val rfl rfl⟩
   · intro ys done W aa hE hn hF hD hZ hG hO
     replace hE : Below w5.heap.size w5 W := hE
     have v22 := (hF 22 (by decide) (hD 22 (by kernel_rfl))).eq rfl
     have g22 := hG 22 64 rfl (Nat.le_of_ble_eq_true rfl)
     rw [v22] at g22
     refine BigFrame.wpList_want (by simp [Region.wanted, yielded, g22]) ?_
     intro K hK
     have o9 := hO 9 (by kernel_rfl)
     replace o9 : aa.tmps[9]? = some (.slice (some ⟨gf, 0, none⟩) 2 2) := o9
     go_wp2_with fail
     first | exact ⟨_, rfl, Below.refl _ _, VK.val rfl rfl, trivial⟩ | exact ⟨_, rfl, Below.refl _ _, VK.val rfl rfl⟩
   · intro ys done W aa hE hn hF hD hZ hG hO
     replace hE : Below w5.heap.size w5 W := hE
     have v22 := (hF 22 (by decide) (hD 22 (by kernel_rfl))).eq rfl
     have g22 := hG 22 64 rfl (Nat.le_of_ble_eq_true rfl)
     rw [v22] at g22
     refine BigFrame.wpList_want (by simp [Region.wanted, yielded, g22]) ?_
     intro K hK
     have v24 := (hF 24 (by decide) (hD 24 (by kernel_rfl))).eq rfl
     have g24 := hG 24 66 rfl (Nat.le_of_ble_eq_true rfl)
     rw [v24] at g24
     go_wp2_with fail
     first | exact ⟨_, rfl, Below.refl _ _, VK.val rfl rfl, trivial⟩ | exact ⟨_, rfl, Below.refl _ _, VK.val rfl rfl⟩
   · intro ys done W aa hE hn hF hD hZ hG hO
     replace hE : Below w5.heap.size w5 W := hE
     have v22 := (hF 22 (by decide) (hD 22 (by kernel_rfl))).eq rfl
     have g22 := hG 22 64 rfl (Nat.le_of_ble_eq_true rfl)
     rw [v22] at g22
     refine BigFrame.wpList_want (by simp [Region.wanted, yielded, g22]) ?_
     intro K hK
     have v25 := (hF 25 (by decide) (hD 25 (by kernel_rfl))).eq rfl
     have g25 := hG 25 67 rfl (Nat.le_of_ble_eq_true rfl)
     rw [v25] at g25
     have hTW := hTM5.out.on hE
     have hAt := hTW.f
     have p0 := hAt.cell 0
     have p1 := hAt.cell 1
     have p2 := hAt.cell 2
     have p3 := hAt.cell 3
     have p4 := hAt.cell 4
     simp at p0 p1 p2 p3 p4
     have hAi := hAt.inside
     clear hAt hTW
     go_wp2_with fail
     first | exact ⟨_, rfl, Below.refl _ _, VK.val rfl rfl, trivial⟩ | exact ⟨_, rfl, Below.refl _ _, VK.val rfl rfl⟩
   · intro ys done W aa hE hn hF hD hZ hG hO
     replace hE : Below w5.heap.size w5 W := hE
     have v22 := (hF 22 (by decide) (hD 22 (by kernel_rfl))).eq rfl
     have g22 := hG 22 64 rfl (Nat.le_of_ble_eq_true rfl)
     rw [v22] at g22
     refine BigFrame.wpList_want (by simp [Region.wanted, yielded, g22]) ?_
     intro K hK
     have v23 := (hF 23 (by decide) (hD 23 (by kernel_rfl))).eq rfl
     have g23 := hG 23 65 rfl (Nat.le_of_ble_eq_true rfl)
     rw [v23] at g23
     have v26 := (hF 26 (by decide) (hD 26 (by kernel_rfl))).eq rfl
     have g26 := hG 26 68 rfl (Nat.le_of_ble_eq_true rfl)
     rw [v26] at g26
     go_wp2_with fail
     first | exact ⟨_, rfl, (Below.refl _ _).alloc (Nat.le_refl _) _, VK.of rfl ⟨_, rfl, At.new _ _ _⟩, trivial⟩ | exact ⟨_, rfl, (Below.refl _ _).alloc (Nat.le_refl _) _, VK.of rfl ⟨_, rfl, At.new _ _ _⟩⟩
   · intro ys done W aa hE hn hF hD hZ hG hO
     replace hE : Below w5.heap.size w5 W := hE
     have v22 := (hF 22 (by decide) (hD 22 (by kernel_rfl))).eq rfl
     have g22 := hG 22 64 rfl (Nat.le_of_ble_eq_true rfl)
     rw [v22] at g22
     refine BigFrame.wpList_want (by simp [Region.wanted, yielded, g22]) ?_
     intro K hK
     have o10 := hO 10 (by kernel_rfl)
     replace o10 : aa.tmps[10]? = some (.slice (some ⟨gr, 0, none⟩) 2 2) := o10
     go_wp2_with fail
     first | exact ⟨_, rfl, Below.refl _ _, VK.val rfl rfl, trivial⟩ | exact ⟨_, rfl, Below.refl _ _, VK.val rfl rfl⟩
   · intro ys done W aa hE hn hF hD hZ hG hO
     replace hE : Below w5.heap.size w5 W := hE
     have v22 := (hF 22 (by decide) (hD 22 (by kernel_rfl))).eq rfl
     have g22 := hG 22 64 rfl (Nat.le_of_ble_eq_true rfl)
     rw [v22] at g22
     refine BigFrame.wpList_want (by simp [Region.wanted, yielded, g22]) ?_
     intro K hK
     have o11 := hO 11 (by kernel_rfl)
     replace o11 : aa.tmps[11]? = some (.slice (some ⟨gt, 0, none⟩) 8 ct) := o11
     go_wp2_with fail
     first | exact ⟨_, rfl, Below.refl _ _, VK.val rfl rfl, trivial⟩ | exact ⟨_, rfl, Below.refl _ _, VK.val rfl rfl⟩
   · intro ys done W aa hE hn hF hD hZ hG hO
     replace hE : Below w5.heap.size w5 W := hE
     have v22 := (hF 22 (by decide) (hD 22 (by kernel_rfl))).eq rfl
     have g22 := hG 22 64 rfl (Nat.le_of_ble_eq_true rfl)
     rw [v22] at g22
     refine BigFrame.wpList_want (by simp [Region.wanted, yielded, g22]) ?_
     intro K hK
     have v27 := (hF 27 (by decide) (hD 27 (by kernel_rfl))).get rfl
     have g27 := hG 27 69 rfl (Nat.le_of_ble_eq_true rfl)
     have v28 := (hF 28 (by decide) (hD 28 (by kernel_rfl))).eq rfl
     have g28 := hG 28 70 rfl (Nat.le_of_ble_eq_true rfl)
     rw [v28] at g28
     have v29 := (hF 29 (by decide) (hD 29 (by kernel_rfl))).eq rfl
     have g29 := hG 29 71 rfl (Nat.le_of_ble_eq_true rfl)
     rw [v29] at g29
     have hTW := hTM5.out.on hE
     obtain ⟨gm, em, hAm⟩ := v27
     rw [em] at g27
     go_wp2_with fail
     refine (t_any hTW.sg [v, va] t [l0, l1] 6 (two_cars hAm).1 (two_rows hTW.r hTW.r0 hTW.r1) hTW.t (two_ok hl0.out hl1.out) (by rw [ht8.out]; decide)).mono ?_
     rintro e W' ⟨rfl, hb'⟩
     replace hb' := Lib.hid hb'
     go_wp2_with fail
     first | exact ⟨_, rfl, hb'.out, VK.val rfl rfl, trivial⟩ | exact ⟨_, rfl, hb'.out, VK.val rfl rfl⟩
   · intro ys done W aa hE hn hF hD hZ hG hO
     replace hE : Below w5.heap.size w5 W := hE
     have v22 := (hF 22 (by decide) (hD 22 (by kernel_rfl))).eq rfl
     have g22 := hG 22 64 rfl (Nat.le_of_ble_eq_true rfl)
     rw [v22] at g22
     have v30 := (hF 30 (by decide) (hD 30 (by kernel_rfl))).eq rfl
     have g30 := hG 30 72 rfl (Nat.le_of_ble_eq_true rfl)
     rw [v30] at g30
     go_wp2_with fail
     first | exact ⟨_, rfl, Below.refl _ _, VK.val rfl rfl, trivial⟩ | exact ⟨_, rfl, Below.refl _ _, VK.val rfl rfl⟩
   · intro ys done W aa hE hn hF hD hZ hG hO
     replace hE : Below w5.heap.size w5 W := hE
     have v31 := (hF 31 (by decide) (hD 31 (by kernel_rfl))).eq rfl
     have g31 := hG 31 73 rfl (Nat.le_of_ble_eq_true rfl)
     rw [v31] at g31
     go_wp2_with fail
     first | exact ⟨_, rfl, Below.refl _ _, VK.val rfl rfl, trivial⟩ | exact ⟨_, rfl, Below.refl _ _, VK.val rfl rfl⟩
   · intro ys done W aa hE hn hF hD hZ hG hO
     replace hE : Below w5.heap.size w5 W := hE
     have v32 := (hF 32 (by decide) (hD 32 (by kernel_rfl))).eq rfl
     have g32 := hG 32 74 rfl (Nat.le_of_ble_eq_true rfl)
     rw [v32] at g32
     refine BigFrame.wpList_want (by simp [Region.wanted, yielded, g32]) ?_
     intro K hK
     have o9 := hO 9 (by kernel_rfl)
     replace o9 : aa.tmps[9]? = some (.slice (some ⟨gf, 0, none⟩) 2 2) := o9
     go_wp2_with fail
     first | exact ⟨_, rfl, Below.refl _ _, VK.val rfl rfl, trivial⟩ | exact ⟨_, rfl, Below.refl _ _, VK.val rfl rfl⟩
   · intro ys done W aa hE hn hF hD hZ hG hO
     replace hE : Below w5.heap.size w5 W := hE
     have v32 := (hF 32 (by decide) (hD 32 (by kernel_rfl))).eq rfl
     have g32 := hG 32 74 rfl (Nat.le_of_ble_eq_true rfl)
     rw [v32] at g32
     refine BigFrame.wpList_want (by simp [Region.wanted, yielded, g32]) ?_
     intro K hK
     have v33 := (hF 33 (by decide) (hD 33 (by kernel_rfl))).eq rfl
     have g33 := hG 33 75 rfl (Nat.le_of_ble_eq_true rfl)
     rw [v33] at g33
     go_wp2_with fail
     first | exact ⟨_, rfl, Below.refl _ _, VK.val rfl rfl, trivial⟩ | exact ⟨_, rfl, Below.refl _ _, VK.val rfl rfl⟩
   · intro ys done W aa hE hn hF hD hZ hG hO
     replace hE : Below w5.heap.size w5 W := hE
     have v32 := (hF 32 (by decide) (hD 32 (by kernel_rfl))).eq rfl
     have g32 := hG 32 74 rfl (Nat.le_of_ble_eq_true rfl)
     rw [v32] at g32
     refine BigFrame.wpList_want (by simp [Region.wanted, yielded, g32]) ?_
     intro K hK
     have o10 := hO 10 (by kernel_rfl)
     replace o10 : aa.tmps[10]? = some (.slice (some ⟨gr, 0, none⟩) 2 2) := o10
     go_wp2_with fail
     first | exact ⟨_, rfl, Below.refl _ _, VK.val rfl rfl, trivial⟩ | exact ⟨_, rfl, Below.refl _ _, VK.val rfl rfl⟩
   · intro ys done W aa hE hn hF hD hZ hG hO
     replace hE : Below w5.heap.size w5 W := hE
     have v32 := (hF 32 (by decide) (hD 32 (by kernel_rfl))).eq rfl
     have g32 := hG 32 74 rfl (Nat.le_of_ble_eq_true rfl)
     rw [v32] at g32
     refine BigFrame.wpList_want (by simp [Region.wanted, yielded, g32]) ?_
     intro K hK
     have o11 := hO 11 (by kernel_rfl)
     replace o11 : aa.tmps[11]? = some (.slice (some ⟨gt, 0, none⟩) 8 ct) := o11
     go_wp2_with fail
     first | exact ⟨_, rfl, Below.refl _ _, VK.val rfl rfl, trivial⟩ | exact ⟨_, rfl, Below.refl _ _, VK.val rfl rfl⟩
   · intro ys done W aa hE hn hF hD hZ hG hO
     replace hE : Below w5.heap.size w5 W := hE
     have v32 := (hF 32 (by decide) (hD 32 (by kernel_rfl))).eq rfl
     have g32 := hG 32 74 rfl (Nat.le_of_ble_eq_true rfl)
     rw [v32] at g32
     refine BigFrame.wpList_want (by simp [Region.wanted, yielded, g32]) ?_
     intro K hK
     have v34 := (hF 34 (by decide) (hD 34 (by kernel_rfl))).eq rfl
     have g34 := hG 34 76 rfl (Nat.le_of_ble_eq_true rfl)
     rw [v34] at g34
     have v35 := (hF 35 (by decide) (hD 35 (by kernel_rfl))).eq rfl
     have g35 := hG 35 77 rfl (Nat.le_of_ble_eq_true rfl)
     rw [v35] at g35
     have v36 := (hF 36 (by decide) (hD 36 (by kernel_rfl))).eq rfl
     have g36 := hG 36 78 rfl (Nat.le_of_ble_eq_true rfl)
     rw [v36] at g36
     have hTW := hTM5.out.on hE
     go_wp2_with fail
     refine (t_any hTW.sg [va] t [l0, l1] 5 (two_cars hTW.f).2 (two_rows hTW.r hTW.r0 hTW.r1) hTW.t (two_ok hl0.out hl1.out) (by rw [ht8.out]; decide)).mono ?_
     rintro e W' ⟨rfl, hb'⟩
     replace hb' := Lib.hid hb'
     go_wp2_with fail
     first | exact ⟨_, rfl, hb'.out, VK.val rfl rfl, trivial⟩ | exact ⟨_, rfl, hb'.out, VK.val rfl rfl⟩
   · intro ys done W aa hE hn hF hD hZ hG hO
     replace hE : Below w5.heap.size w5 W := hE
     have v32 := (hF 32 (by decide) (hD 32 (by kernel_rfl))).eq rfl
     have g32 := hG 32 74 rfl (Nat.le_of_ble_eq_true rfl)
     rw [v32] at g32
     have v37 := (hF 37 (by decide) (hD 37 (by kernel_rfl))).eq rfl
     have g37 := hG 37 79 rfl (Nat.le_of_ble_eq_true rfl)
     rw [v37] at g37
     go_wp2_with fail
     first | exact ⟨_, rfl, Below.refl _ _, VK.val rfl rfl, trivial⟩ | exact ⟨_, rfl, Below.refl _ _, VK.val rfl rfl⟩
   · intro ys done W aa hE hn hF hD hZ hG hO
     replace hE : Below w5.heap.size w5 W := hE
     have v38 := (hF 38 (by decide) (hD 38 (by kernel_rfl))).eq rfl
     have g38 := hG 38 80 rfl (Nat.le_of_ble_eq_true rfl)
     rw [v38] at g38
     go_wp2_with fail
     first | exact ⟨_, rfl, Below.refl _ _, VK.val rfl rfl, trivial⟩ | exact ⟨_, rfl, Below.refl _ _, VK.val rfl rfl⟩
   · intro ys done W aa hE hn hF hD hZ hG hO
     replace hE : Below w5.heap.size w5 W := hE
     have v39 := (hF 39 (by decide) (hD 39 (by kernel_rfl))).eq rfl
     have g39 := hG 39 81 rfl (Nat.le_of_ble_eq_true rfl)
     rw [v39] at g39
     refine BigFrame.wpList_want (by simp [Region.wanted, yielded, g39]) ?_
     intro K hK
     have o9 := hO 9 (by kernel_rfl)
     replace o9 : aa.tmps[9]? = some (.slice (some ⟨gf, 0, none⟩) 2 2) := o9
     go_wp2_with fail
     first | exact ⟨_, rfl, Below.refl _ _, VK.val rfl rfl, trivial⟩ | exact ⟨_, rfl, Below.refl _ _, VK.val rfl rfl⟩
   · intro ys done W aa hE hn hF hD hZ hG hO
     replace hE : Below w5.heap.size w5 W := hE
     have v39 := (hF 39 (by decide) (hD 39 (by kernel_rfl))).eq rfl
     have g39 := hG 39 81 rfl (Nat.le_of_ble_eq_true rfl)
     rw [v39] at g39
     refine BigFrame.wpList_want (by simp [Region.wanted, yielded, g39]) ?_
     intro K hK
     have o10 := hO 10 (by kernel_rfl)
     replace o10 : aa.tmps[10]? = some (.slice (some ⟨gr, 0, none⟩) 2 2) := o10
     go_wp2_with fail
     first | exact ⟨_, rfl, Below.refl _ _, VK.val rfl rfl, trivial⟩ | exact ⟨_, rfl, Below.refl _ _, VK.val rfl rfl⟩
   · intro ys done W aa hE hn hF hD hZ hG hO
     replace hE : Below w5.heap.size w5 W := hE
     have v39 := (hF 39 (by decide) (hD 39 (by kernel_rfl))).eq rfl
     have g39 := hG 39 81 rfl (Nat.le_of_ble_eq_true rfl)
     rw [v39] at g39
     refine BigFrame.wpList_want (by simp [Region.wanted, yielded, g39]) ?_
     intro K hK
     have v41 := (hF 41 (by decide) (hD 41 (by kernel_rfl))).eq rfl
     have g41 := hG 41 83 rfl (Nat.le_of_ble_eq_true rfl)
     rw [v41] at g41
     go_wp2_with fail
     first | exact ⟨_, rfl, Below.refl _ _, VK.val rfl rfl, trivial⟩ | exact ⟨_, rfl, Below.refl _ _, VK.val rfl rfl⟩
   · intro ys done W aa hE hn hF hD hZ hG hO
     replace hE : Below w5.heap.size w5 W := hE
     have v39 := (hF 39 (by decide) (hD 39 (by kernel_rfl))).eq rfl
     have g39 := hG 39 81 rfl (Nat.le_of_ble_eq_true rfl)
     rw [v39] at g39
     refine BigFrame.wpList_want (by simp [Region.wanted, yielded, g39]) ?_
     intro K hK
     have v42 := (hF 42 (by decide) (hD 42 (by kernel_rfl))).eq rfl
     have g42 := hG 42 84 rfl (Nat.le_of_ble_eq_true rfl)
     rw [v42] at g42
     have hTW := hTM5.out.on hE
     have hAt := hTW.r
     have p0 := hAt.cell 0
     simp at p0
     have hAi := hAt.inside
     clear hAt hTW
     go_wp2_with fail
     first | exact ⟨_, rfl, Below.refl _ _, VK.val rfl rfl, trivial⟩ | exact ⟨_, rfl, Below.refl _ _, VK.val rfl rfl⟩
   · intro ys done W aa hE hn hF hD hZ hG hO
     replace hE : Below w5.heap.size w5 W := hE
     have v39 := (hF 39 (by decide) (hD 39 (by kernel_rfl))).eq rfl
     have g39 := hG 39 81 rfl (Nat.le_of_ble_eq_true rfl)
     rw [v39] at g39
     refine BigFrame.wpList_want (by simp [Region.wanted, yielded, g39]) ?_
     intro K hK
     have o10 := hO 10 (by kernel_rfl)
     replace o10 : aa.tmps[10]? = some (.slice (some ⟨gr, 0, none⟩) 2 2) := o10
     go_wp2_with fail
     first | exact ⟨_, rfl, Below.refl _ _, VK.val rfl rfl, trivial⟩ | exact ⟨_, rfl, Below.refl _ _, VK.val rfl rfl⟩
   · intro ys done W aa hE hn hF hD hZ hG hO
     replace hE : Below w5.heap.size w5 W := hE
     have v39 := (hF 39 (by decide) (hD 39 (by kernel_rfl))).eq rfl
     have g39 := hG 39 81 rfl (Nat.le_of_ble_eq_true rfl)
     rw [v39] at g39
     refine BigFrame.wpList_want (by simp [Region.wanted, yielded, g39]) ?_
     intro K hK
     have v44 := (hF 44 (by decide) (hD 44 (by kernel_rfl))).eq rfl
     have g44 := hG 44 86 rfl (Nat.le_of_ble_eq_true rfl)
     rw [v44] at g44
     go_wp2_with fail
     first | exact ⟨_, rfl, Below.refl _ _, VK.val rfl rfl, trivial⟩ | exact ⟨_, rfl, Below.refl _ _, VK.val rfl rfl⟩
   · intro ys done W aa hE hn hF hD hZ hG hO
     replace hE : Below w5.heap.size w5 W := hE
     have v39 := (hF 39 (by decide) (hD 39 (by kernel_rfl))).eq rfl
     have g39 := hG 39 81 rfl (Nat.le_of_ble_eq_true rfl)
     rw [v39] at g39
     refine BigFrame.wpList_want (by simp [Region.wanted, yielded, g39]) ?_
     intro K hK
     have v45 := (hF 45 (by decide) (hD 45 (by kernel_rfl))).eq rfl
     have g45 := hG 45 87 rfl (Nat.le_of_ble_eq_true rfl)
     rw [v45] at g45
     have hTW := hTM5.out.on hE
     have hAt := hTW.r
     have p0 := hAt.cell 0
     simp at p0
     have hAi := hAt.inside
     clear hAt hTW
     go_wp2_with fail
     first | exact ⟨_, rfl, Below.refl _ _, VK.val rfl rfl, trivial⟩ | exact ⟨_, rfl, Below.refl _ _, VK.val rfl rfl⟩
   · intro ys done W aa hE hn hF hD hZ hG hO
     replace hE : Below w5.heap.size w5 W := hE
     have v39 := (hF 39 (by decide) (hD 39 (by kernel_rfl))).eq rfl
     have g39 := hG 39 81 rfl (Nat.le_of_ble_eq_true rfl)
     rw [v39] at g39
     refine BigFrame.wpList_want (by simp [Region.wanted, yielded, g39]) ?_
     intro K hK
     have v43 := (hF 43 (by decide) (hD 43 (by kernel_rfl))).eq rfl
     have g43 := hG 43 85 rfl (Nat.le_of_ble_eq_true rfl)
     rw [v43] at g43
     have v46 := (hF 46 (by decide) (hD 46 (by kernel_rfl))).eq rfl
     have g46 := hG 46 88 rfl (Nat.le_of_ble_eq_true rfl)
     rw [v46] at g46
     go_wp2_with fail
     first | exact ⟨_, rfl, (Below.refl _ _).alloc (Nat.le_refl _) _, VK.of rfl ⟨_, rfl, At.new _ _ _⟩, trivial⟩ | exact ⟨_, rfl, (Below.refl _ _).alloc (Nat.le_refl _) _, VK.of rfl ⟨_, rfl, At.new _ _ _⟩⟩
   · intro ys done W aa hE hn hF hD hZ hG hO
     replace hE : Below w5.heap.size w5 W := hE
     have v39 := (hF 39 (by decide) (hD 39 (by kernel_rfl))).eq rfl
     have g39 := hG 39 81 rfl (Nat.le_of_ble_eq_true rfl)
     rw [v39] at g39
     refine BigFrame.wpList_want (by simp [Region.wanted, yielded, g39]) ?_
     intro K hK
     have o11 := hO 11 (by kernel_rfl)
     replace o11 : aa.tmps[11]? = some (.slice (some ⟨gt, 0, none⟩) 8 ct) := o11
     go_wp2_with fail
     first | exact ⟨_, rfl, Below.refl _ _, VK.val rfl rfl, trivial⟩ | exact ⟨_, rfl, Below.refl _ _, VK.val rfl rfl⟩
   · intro ys done W aa hE hn hF hD hZ hG hO
     replace hE : Below w5.heap.size w5 W := hE
     have v39 := (hF 39 (by decide) (hD 39 (by kernel_rfl))).eq rfl
     have g39 := hG 39 81 rfl (Nat.le_of_ble_eq_true rfl)
     rw [v39] at g39
     refine BigFrame.wpList_want (by simp [Region.wanted, yielded, g39]) ?_
     intro K hK
     have v40 := (hF 40 (by decide) (hD 40 (by kernel_rfl))).eq rfl
     have g40 := hG 40 82 rfl (Nat.le_of_ble_eq_true rfl)
     rw [v40] at g40
     have v47 := (hF 47 (by decide) (hD 47 (by kernel_rfl))).get rfl
     have g47 := hG 47 89 rfl (Nat.le_of_ble_eq_true rfl)
     have v48 := (hF 48 (by decide) (hD 48 (by kernel_rfl))).eq rfl
     have g48 := hG 48 90 rfl (Nat.le_of_ble_eq_true rfl)
     rw [v48] at g48
     have hTW := hTM5.out.on hE
     obtain ⟨gm, em, hAm⟩ := v47
     rw [em] at g47
     go_wp2_with fail
     refine (t_any hTW.sg [va, vb] t [l0, l0] 7 (two_cars hTW.f).1 (two_rows hAm hTW.r0 hTW.r0) hTW.t (two_ok hl0.out hl0.out) (by rw [ht8.out]; decide)).mono ?_
     rintro e W' ⟨rfl, hb'⟩
     replace hb' := Lib.hid hb'
     go_wp2_with fail
     first | exact ⟨_, rfl, hb'.out, VK.val rfl rfl, trivial⟩ | exact ⟨_, rfl, hb'.out, VK.val rfl rfl⟩
   · intro ys done W aa hE hn hF hD hZ hG hO
     replace hE : Below w5.heap.size w5 W := hE
     have v39 := (hF 39 (by decide) (hD 39 (by kernel_rfl))).eq rfl
     have g39 := hG 39 81 rfl (Nat.le_of_ble_eq_true rfl)
     rw [v39] at g39
     have v49 := (hF 49 (by decide) (hD 49 (by kernel_rfl))).eq rfl
     have g49 := hG 49 91 rfl (Nat.le_of_ble_eq_true rfl)
     rw [v49] at g49
     go_wp2_with fail
     first | exact ⟨_, rfl, Below.refl _ _, VK.val rfl rfl, trivial⟩ | exact ⟨_, rfl, Below.refl _ _, VK.val rfl rfl⟩
   · intro ys done W aa hE hn hF hD hZ hG hO
     replace hE : Below w5.heap.size w5 W := hE
     have v50 := (hF 50 (by decide) (hD 50 (by kernel_rfl))).eq rfl
     have g50 := hG 50 92 rfl (Nat.le_of_ble_eq_true rfl)
     rw [v50] at g50
     go_wp2_with fail
     first | exact ⟨_, rfl, Below.refl _ _, VK.val rfl rfl, trivial⟩ | exact ⟨_, rfl, Below.refl _ _, VK.val rfl rfl⟩
   · intro ys done W aa hE hn hF hD hZ hG hO
     replace hE : Below w5.heap.size w5 W := hE
     have v51 := (hF 51 (by decide) (hD 51 (by kernel_rfl))).eq rfl
     have g51 := hG 51 93 rfl (Nat.le_of_ble_eq_true rfl)
     rw [v51] at g51
     refine BigFrame.wpList_want (by simp [Region.wanted, yielded, g51]) ?_
     intro K hK
     have hTW := hTM5.out.on hE
     go_wp2_with fail
     refine (works_any W hTW.sg).mono ?_
     rintro e W' ⟨rfl, hb'⟩
     replace hb' := Lib.hid hb'
     go_wp2_with fail
     first | exact ⟨_, rfl, hb'.out, VK.val rfl rfl, trivial⟩ | exact ⟨_, rfl, hb'.out, VK.val rfl rfl⟩
   · intro ys done W aa hE hn hF hD hZ hG hO
     replace hE : Below w5.heap.size w5 W := hE
     have v51 := (hF 51 (by decide) (hD 51 (by kernel_rfl))).eq rfl
     have g51 := hG 51 93 rfl (Nat.le_of_ble_eq_true rfl)
     rw [v51] at g51
     have v52 := (hF 52 (by decide) (hD 52 (by kernel_rfl))).eq rfl
     have g52 := hG 52 94 rfl (Nat.le_of_ble_eq_true rfl)
     rw [v52] at g52
     go_wp2_with fail
     first | exact ⟨_, rfl, Below.refl _ _, VK.val rfl rfl, trivial⟩ | exact ⟨_, rfl, Below.refl _ _, VK.val rfl rfl⟩
  case hQB =>
   intro ys w6 hE hF _
   replace hE : Below w5.heap.size w5 w6 := hE
   have v53 := (hF 53 (by decide)).eq rfl
   simp only [List.take_succ_cons, List.take_zero, List.drop_succ_cons, List.drop_zero, Sched.fill, v53]
   clear hF v53 
   go_simp
   have hB6 := Lib.hid (hB5.out.trans (hE.mono hs5))
   clear hE
   go_wp2
   go_ret
   exact ⟨rfl, hB6.out⟩
end Go.Proofs.YteclpblfleakhaaGreatDoor.Price
namespace Go.Proofs.YteclpblfleakhaaGreatDoor.Price
open Go.RowKit Go.ChangeShapes Go.WideShapes Go.ChangeAt Go.Proofs.YteclpblfleakhaaGreatDoor.Mem Go.Proofs.YteclpblfleakhaaGreatDoor.Route Go.Proofs.YteclpblfleakhaaGreatDoor.When Go.Proofs.YteclpblfleakhaaGreatDoor.Plan
set_option linter.unusedVariables false
section
variable {H : Type} {enc : TypeId × Value → H} {w : World} {base : Nat} {spare : Nat → Bool} {held : Bool}
set_option maxRecDepth 100000 in
theorem openThree14 {r : Reach} {b0 : Nat} {v : Value} {d : DataW H} {p : List MemPlace} (hv : Value.okWide Tryz.prog w r b0 27 v) (h : DataW.Trod enc Tryz.prog w base spare held 27 v d p) :
 ∃ a b c : Int, v = .agg #[.int .i64 a, .int .i64 b, .int .i64 c] := by
 obtain ⟨xs, hlen, rfl, _⟩ := Close.open_numbers (n := 3) Tryz.underlying27 Tryz.underlying3 (by kernel_rfl) (by kernel_rfl) hv h
 match xs, hlen with
 | [a, b, c], _ => exact ⟨a, b, c, rfl⟩
theorem list6P {α : Type} {cs : Array α} (h : cs.size = 6) : ∃ c0 c1 c2 c3 c4 c5, cs = #[c0, c1, c2, c3, c4, c5] := by
 obtain ⟨l⟩ := cs
 match l, h with
 | [c0, c1, c2, c3, c4, c5], _ => exact ⟨c0, c1, c2, c3, c4, c5, rfl⟩
theorem cellsSts14 : Tryz.prog.cellsOf 28 = 1 := by kernel_rfl
theorem cellsVeh14 : Tryz.prog.cellsOf 32 = 5 := by kernel_rfl
theorem cellsPl14 : Tryz.prog.cellsOf 30 = 2 := by kernel_rfl
set_option maxRecDepth 100000 in
theorem openAny14 {r : Reach} {b0 : Nat} {v : Value} {d : DataW H} {p : List MemPlace} (hv : Value.okWide Tryz.prog w r b0 34 v) (h : DataW.Trod enc Tryz.prog w base spare held 34 v d p) :
 ∃ (xl : Option Addr) (Nl cl : Nat) (l : List (Int × Int)) (x : Vh), v = .agg #[.slice xl Nl cl, .int .i64 x.hx, .int .i64 x.hy, .int .i64 x.cp, .int .i64 x.st, .int .i64 x.en] ∧ Row w.heap.size w (.slice xl Nl cl) l ∧ Nums l := by
 obtain ⟨cs, rfl, hsz⟩ := okWide_struct Tryz.underlying34 hv
 obtain ⟨c0, c1, c2, c3, c4, c5, rfl⟩ := list6P (hsz.trans (by kernel_rfl))
 obtain ⟨fuel, hf⟩ := h
 obtain ⟨_, _, h0⟩ := fieldS (i := 0) Tryz.underlying34 hf rfl
 obtain ⟨_, _, h1⟩ := fieldS (i := 1) Tryz.underlying34 hf rfl
 simp [Value.cells, cellsSts14, cellsVeh14] at h0 h1
 obtain ⟨l, hl1, hl2⟩ := rows_of (f := stV) (g := fun s => I64 s.1 ∧ I64 s.2) Tryz.underlying28 cellsSt (by decide) (fun n cs y hy hl => by
  obtain ⟨a, b, rfl⟩ := list2T hl
  obtain ⟨_, _, h0⟩ := fieldS (i := 0) Tryz.underlying82 hy rfl
  obtain ⟨_, _, h1⟩ := fieldS (i := 1) Tryz.underlying82 hy rfl
  obtain ⟨x, rfl, hx⟩ := i64_of (by simpa [cellsI] using h0)
  obtain ⟨z, rfl, hz⟩ := i64_of (by simpa [cellsI] using h1)
  exact ⟨(x, z), rfl, hx, hz⟩) h0
 obtain ⟨_, _, g0⟩ := fieldS (i := 0) Tryz.underlying32 h1 rfl
 obtain ⟨_, _, g1⟩ := fieldS (i := 1) Tryz.underlying32 h1 rfl
 obtain ⟨_, _, g2⟩ := fieldS (i := 2) Tryz.underlying32 h1 rfl
 obtain ⟨_, _, g3⟩ := fieldS (i := 3) Tryz.underlying32 h1 rfl
 simp [cellsI, cellsPl14] at g0 g1 g2 g3
 obtain ⟨_, _, e0⟩ := fieldS (i := 0) Tryz.underlying30 g0 rfl
 obtain ⟨_, _, e1⟩ := fieldS (i := 1) Tryz.underlying30 g0 rfl
 simp [cellsI] at e0 e1
 obtain ⟨hx, rfl, _⟩ := i64_of e0
 obtain ⟨hy, rfl, _⟩ := i64_of e1
 obtain ⟨cp, rfl, _⟩ := i64_of g1
 obtain ⟨st, rfl, _⟩ := i64_of g2
 obtain ⟨en, rfl, _⟩ := i64_of g3
 obtain ⟨xl, cl, rfl, _⟩ := id hl1
 exact ⟨xl, _, cl, l, ⟨hx, hy, cp, st, en⟩, rfl, hl1, hl2⟩
end
end Go.Proofs.YteclpblfleakhaaGreatDoor.Price
/-
  PriceTells, the least rise, and where it is, are as the document says, of drafts of vehicles and routes, of these with one thing otherwise, and of any stops, returns true: for all drafts, numbers, stops (ten at most are taken), and vehicles. Its condition: package load's variable signs, package cheap's variable none and package price's variable none are as the program's text lays them when the call begins, which the card ties to that text.
-/
namespace Go.Proofs.YteclpblfleakhaaGreatDoor.priceTells
open Go.ChangeShapes Go.WideShapes Go.ChangeAt Go.RowKit Go.Sort
open Go.Proofs.YteclpblfleakhaaGreatDoor.Laid Go.Proofs.YteclpblfleakhaaGreatDoor.When Go.Proofs.YteclpblfleakhaaGreatDoor.Plan Go.Proofs.YteclpblfleakhaaGreatDoor.Price
set_option linter.unusedVariables false
set_option maxRecDepth 100000 in
theorem lifted (os : Os) (started : os.Started) (H : Type) (enc : TypeId × Value → H) :
 ReturnsInHanded {} Tryz.checked os 3 .any (fun w args => (Rows.priceTellsSpec.pre enc Tryz.prog Tryz.f3 [] false w args ∧ laidMetH Tryz.prog Rows.priceTellsRow.laid w) ∧ sizedMet enc Tryz.prog Tryz.f3 (OpenSpec.ofChange Rows.priceTellsSpec) false w args)
  (Rows.priceTellsSpec.post enc Tryz.prog Tryz.f3 false true false false) := by
 refine returnsInHanded_of_change_and (C := Tryz.checked) (X := fun w _ => laidMetH Tryz.prog Rows.priceTellsRow.laid w) (fun _ _ _ hh h => h.of_heap hh) own started (by kernel_rfl) Tryz.func3
  (ChangeSpec.witness_shaped (enc := enc) (C := Tryz.checked) (os := os) (X := fun w _ => laidMetH Tryz.prog Rows.priceTellsRow.laid w) false (World.doorLaid Tryz.prog 400 os) #[.agg #[.slice none 0 0, .int .u8 0, .int .u8 0, .int .i64 0, .int .u8 0], .agg #[.int .i64 0, .int .i64 0, .int .i64 0], .agg #[.slice none 0 0, .int .i64 0, .int .i64 0, .int .i64 0, .int .i64 0, .int .i64 0]] 8 rfl (World.shaped_of_RefB (by kernel_rfl) (by kernel_rfl)) (by kernel_rfl) (by kernel_rfl) (by kernel_rfl) (door_met os _)) ?_
 intro W base args ds gs before hval0 hW _ _ hL _
 have hval : ∀ (j : Nat) t v, Tryz.f3.params[j]? = some t → args[j]? = some v → Value.okWide Tryz.prog W .any base t v := hval0
 have hW' := hW
 obtain ⟨p, q, hA0, hV, rfl, hfz, hnd⟩ := hW
 have hA : DataW.TrodAll enc Tryz.prog W 0 (fun _ => true) true Tryz.f3.params.toList args.toList ds p := hA0
 rw [Tryz.params3] at hA hval
 obtain ⟨v0, vs0, d0, ds0, p0, q0, hargs, rfl, rfl, h0, r0⟩ := trodAll_cons hA
 obtain ⟨v1, vs1, d1, ds1, p1, q1, rfl, rfl, rfl, h1, r1⟩ := trodAll_cons r0
 obtain ⟨v2, vs2, d2, ds2, p2, q2, rfl, rfl, rfl, h2, r2⟩ := trodAll_cons r1
 obtain ⟨rfl, rfl, rfl⟩ := trodAll_nil r2
 obtain rfl : args = #[v0, v1, v2] := by cases args; simp_all
 obtain ⟨rfl, rfl⟩ := trodVars_none hV
 obtain ⟨xb, Nb, cb, bs, a, b, c, f, rfl, hbs, hby, ha, hb, hff⟩ := openDraft14 (hval 0 _ _ rfl rfl) h0
 obtain ⟨n0, n1, n2, rfl⟩ := openThree14 (hval 1 _ _ rfl rfl) h1
 obtain ⟨xL, NL, cL, L, vx, rfl, hLr, hLn⟩ := openAny14 (hval 2 _ _ rfl rfl) h2
 exact (tells_walk xb Nb cb bs a b c f n0 n1 n2 xL NL cL L hLn vx W (sg_of_laid hL) hbs hby ha hb hff hLr).mono fun e W' ⟨he, hb⟩ => ⟨_, he, Close.law_post laidOut (by kernel_rfl) rfl (by kernel_rfl) Tryz.underlying4 hW' rfl hb⟩
theorem over : Rows.PriceTellsSaid :=
 OpenClaim.holds_of_wide 3 Tryz.f3 rfl rfl rfl rfl rfl rfl rfl ⟨rfl, rfl, rfl, rfl, rfl⟩ rfl rfl rfl rfl rfl (by kernel_rfl) Tryz.func3 (by kernel_rfl)
  (of_decide_eq_true (by kernel_rfl)) (by unfold Func.isWrapper; first | (rw [if_pos (by decide +kernel)]; kernel_rfl) | (rw [if_neg (by decide +kernel)]; exact ⟨rfl, rfl⟩))
  (fun os started H enc _ => lifted os started H enc)
theorem proved : Rows.PriceTellsCardSaid :=
 Claim7.holds_tied_plain_at .later [] [.data, .data, .data] true (true, "6cc6d720fdb0347ce8fdc63e5f08b6c919ec5a82abf33398c69b0ef9e3aa89d5") false
  over (fun _ h => by cases h) (by kernel_rfl) (fun _ h => by cases h) priceTells_row_tie rfl ⟨rfl, rfl⟩ (by kernel_rfl) rfl
  (fun f fn hf hfn => by
   obtain rfl : f = 3 := Option.some.inj ((show Tryz.prog.funcNamed "consign/consignlaw14.PriceTells" = some 3 by kernel_rfl).symm.trans hf) |>.symm
   obtain rfl : fn = Tryz.f3 := (Option.some.inj (Tryz.func3.symm.trans hfn)).symm
   exact ⟨by kernel_rfl, fun j t ht => by
    rw [Tryz.params3] at ht
    have hm : t ∈ [26, 27, 34] := by simpa using Array.mem_of_getElem? ht
    have hall : ([26, 27, 34].all fun u => !Tryz.prog.wantsStandIn u) = true := by kernel_rfl
    exact (show Tryz.prog.wantsStandIn t = false by simpa using List.all_eq_true.1 hall t hm)⟩)
  (by kernel_rfl)
#print axioms proved
end Go.Proofs.YteclpblfleakhaaGreatDoor.priceTells

import Derived.Test.YteclpblfleakhaaGreatDoorPkUp2
import Derived.Test.YteclpblfleakhaaGreatDoorPkRoutePairs

namespace Go.Proofs.YteclpblfleakhaaGreatDoor.When
open Go.RowKit Go.Shelf Go.Proofs.YteclpblfleakhaaGreatDoor.Mem Go.Proofs.YteclpblfleakhaaGreatDoor.Route Go.Proofs.YteclpblfleakhaaGreatDoor.Up
set_option linter.unusedVariables false
attribute [local go_sem] Oper.semAt_some
def flatT (l : List Tm) : List Value := (l.map tmC).flatten
theorem flatT_snoc (l : List Tm) (s : Tm) : flatT (l ++ [s]) = flatT l ++ [.int .i64 s.ar, .int .i64 s.be, .int .i64 s.lv] := by simp [flatT, tmC]
theorem flatT_length (l : List Tm) : (flatT l).length = l.length * 3 := by
 induction l with
 | nil => rfl
 | cons s l ih =>
  have : flatT (s :: l) = tmC s ++ flatT l := by simp [flatT]
  rw [this, List.length_append, ih]
  simp [tmC]
  omega
theorem Tms.of_owns {B : Nat} {W : World} {base n : Nat} {e : TypeId} {v : Value} {l : List Tm} (h : W.ownsRow base e 3 v n (flatT l)) (hn : n = l.length) (hB : W.heap.size ≤ B) : Tms B W v l :=
 RowB.of_owns h (by simpa using hn) (fun r hr => by obtain ⟨s, _, rfl⟩ := List.mem_map.1 hr; rfl) hB
theorem owns_slice {W : World} {base size k : Nat} {e : TypeId} {v : Value} {xs : List Value} (h : W.ownsRow base e size v k xs) : ∃ x cap, v = .slice x k cap ∧ cap ≤ maxLen ∧ k ≤ cap := by
 obtain ⟨hl, ⟨rfl, rfl⟩ | ⟨g, cap, cur, rfl, hb, hg, hc1, hc2, hs, ht⟩⟩ := h
 · exact ⟨none, 0, rfl, Nat.zero_le _, Nat.le_refl _⟩
 · exact ⟨_, cap, rfl, hc2, hc1⟩
theorem owns_same {W W' : World} {base size k : Nat} {e : TypeId} {v : Value} {xs : List Value} (h : W.ownsRow base e size v k xs) (hs : ∀ g, base ≤ g → g < W.heap.size → (∃ cs t, W.heap[g]? = some (.cells cs t (0, 0))) → W'.heap[g]? = W.heap[g]?) : W'.ownsRow base e size v k xs := by
 obtain ⟨hl, h1 | ⟨g, cap, cur, rfl, hb, hg, hr⟩⟩ := h
 · exact ⟨hl, .inl h1⟩
 · exact ⟨hl, .inr ⟨g, cap, cur, rfl, hb, (hs g hb (Array.getElem?_eq_some_iff.1 hg).1 ⟨_, _, hg⟩).trans hg, hr⟩⟩
theorem owns_old {A A' : World} {base size k : Nat} {e : TypeId} {v : Value} {xs : List Value} {row : Option Nat} (h : A.ownsRow base e size v k xs) (hg : A.grownBy A' row) (hr : ∀ r, row = some r → r < base ∨ ∃ o, A.heap[r]? = some o ∧ o.isCells = false) : A'.ownsRow base e size v k xs := by
 refine owns_same h fun g hb hgs ⟨cs, t, hc⟩ => hg.block g hgs fun e => ?_
 rcases hr g e.symm with h1 | ⟨o, h1, h2⟩
 · omega
 · rw [hc] at h1; cases h1; cases h2
theorem owns_far {A : World} {base size k : Nat} {e : TypeId} {v : Value} {xs : List Value} (h : A.ownsRow base e size v k xs) {b : Nat} (hb : b < base) (i : Nat) (x : Value) : (A.setCell ⟨b, i, none⟩ x).ownsRow base e size v k xs :=
 owns_same h fun g hg _ _ => Below.heap_setCell _ _ _ _ (by show g ≠ b; omega)
theorem At.oldCells {A A' : World} {g n : Nat} {t : TypeId} {cs : Array Value} {row : Option Nat} (h : At A g t cs) (hg : A.grownBy A' row) (hr : ∀ r, row = some r → n ≤ r ∧ ∃ o, A.heap[r]? = some o ∧ o.isCells = false) : At A' g t cs :=
 (hg.block g h.inside (fun e => by
  obtain ⟨_, o, ho, hc⟩ := hr g e.symm
  have h' : A.heap[g]? = some (.cells cs t (0, 0)) := h
  rw [h'] at ho
  cases ho
  cases hc)).trans h
theorem At.grownOff {A A' : World} {g b : Nat} {t : TypeId} {cs : Array Value} (h : At A g t cs) (hg : A.grownBy A' (some b)) (hne : g ≠ b) : At A' g t cs := (hg.block g h.inside (fun e => hne (by cases e; rfl))).trans h
structure TripI (w : World) (v : Vh) (vl vt : Value) (g bl bt bv n : Nat) (pre : List (Sp × Vi)) (W : World) : Prop where
 spot : ∃ o1 o2, At W g 164 #[.int .i64 o1, .int .i64 o2, .int .i64 (endA (sp0 v) (pre.map (·.2))).now, .int .i64 (endA (sp0 v) (pre.map (·.2))).px, .int .i64 (endA (sp0 v) (pre.map (·.2))).py]
 fn : At W n 170 #[.func (.func 82) #[.pointer (some ⟨g, 0, none⟩)] #[]]
 res : At W (n + 1) 120 #[.slice none 0 0]
 ok : At W (n + 2) 4 #[.bool false]
 times : (∀ y ∈ pre, good y = true) → ∃ x cap, At W (n + 3) 120 #[.slice x pre.length cap] ∧ W.ownsRow (n + 6) 152 3 (.slice x pre.length cap) pre.length (flatT (tmsL pre))
 hl : At W bl 28 #[vl]
 ht : At W bt 37 #[vt]
 hv : At W bv 32 #[.int .i64 v.hx, .int .i64 v.hy, .int .i64 v.cp, .int .i64 v.st, .int .i64 v.en]
 below : Below g w W
theorem TripI.old {w : World} {v : Vh} {vl vt : Value} {g bl bt bv n m : Nat} (hm : g ≤ m) : Old m (TripI w v vl vt g bl bt bv n) := by
 rintro pre A A' row h hg hr
 obtain ⟨o1, o2, hs⟩ := h.spot
 refine ⟨⟨o1, o2, At.oldCells hs hg hr⟩, At.oldCells h.fn hg hr, At.oldCells h.res hg hr, At.oldCells h.ok hg hr, fun hp => ?_, At.oldCells h.hl hg hr, At.oldCells h.ht hg hr, At.oldCells h.hv hg hr, h.below.grown hg (Nat.le_of_lt hs.inside) (fun k e => by have := (hr k e).1; omega)⟩
 obtain ⟨x, cap, h1, h2⟩ := h.times hp
 exact ⟨x, cap, At.oldCells h1 hg hr, owns_old h2 hg (fun r e => .inr (hr r e).2)⟩
theorem info_time : (Tryz.prog.info? 152).map (fun i => (i.zero, i.size, i.bytes)) = some (some (.agg #[.int .i64 0, .int .i64 0, .int .i64 0]), 3, 24) := by kernel_rfl
theorem good_last {pre : List (Sp × Vi)} {y : Sp × Vi} (h : ∀ z ∈ pre ++ [y], good z = true) : good y = true := h y (by simp)
theorem At.under {A A' : World} {g m : Nat} {t : TypeId} {cs : Array Value} {row : Option Nat} (h : At A g t cs) (hg : A.grownBy A' row) (hr : ∀ r, row = some r → m ≤ r) (hm : g < m) : At A' g t cs := (hg.block g h.inside (fun e => by have := hr g e.symm; omega)).trans h
theorem TripI.setRes {w : World} {v : Vh} {vl vt : Value} {g bl bt bv n : Nat} {pre : List (Sp × Vi)} {W : World} (h : TripI w v vl vt g bl bt bv n pre W) (hg : g < n) (hb : bl < n ∧ bt < n ∧ bv < n) (hw : w.heap.size = n) : TripI w v vl vt g bl bt bv n pre (W.setCell ⟨n + 1, 0, none⟩ (.slice none 0 0)) := by
 obtain ⟨o1, o2, hs⟩ := h.spot
 refine ⟨⟨o1, o2, hs.far (by omega) _ _⟩, h.fn.far (by omega) _ _, by simpa using h.res.put 0 (.slice none 0 0), h.ok.far (by omega) _ _, fun hp => ?_, h.hl.far (by omega) _ _, h.ht.far (by omega) _ _, h.hv.far (by omega) _ _, h.below.setCell (by simp; omega) _⟩
 obtain ⟨x, cap, h1, h2⟩ := h.times hp
 exact ⟨x, cap, h1.far (by omega) _ _, owns_far h2 (by omega) _ _⟩
theorem TripI.setOk {w : World} {v : Vh} {vl vt : Value} {g bl bt bv n : Nat} {pre : List (Sp × Vi)} {W : World} (h : TripI w v vl vt g bl bt bv n pre W) (hg : g < n) (hb : bl < n ∧ bt < n ∧ bv < n) (hw : w.heap.size = n) : TripI w v vl vt g bl bt bv n pre (W.setCell ⟨n + 2, 0, none⟩ (.bool false)) := by
 obtain ⟨o1, o2, hs⟩ := h.spot
 refine ⟨⟨o1, o2, hs.far (by omega) _ _⟩, h.fn.far (by omega) _ _, h.res.far (by omega) _ _, by simpa using h.ok.put 0 (.bool false), fun hp => ?_, h.hl.far (by omega) _ _, h.ht.far (by omega) _ _, h.hv.far (by omega) _ _, h.below.setCell (by simp; omega) _⟩
 obtain ⟨x, cap, h1, h2⟩ := h.times hp
 exact ⟨x, cap, h1.far (by omega) _ _, owns_far h2 (by omega) _ _⟩
structure TripH (w : World) (v : Vh) (vl vt : Value) (g bl bt bv n : Nat) (pre : List (Sp × Vi)) (W : World) : Prop where
 spot : ∃ o1 o2, At W g 164 #[.int .i64 o1, .int .i64 o2, .int .i64 (endA (sp0 v) (pre.map (·.2))).now, .int .i64 (endA (sp0 v) (pre.map (·.2))).px, .int .i64 (endA (sp0 v) (pre.map (·.2))).py]
 fn : At W n 170 #[.func (.func 82) #[.pointer (some ⟨g, 0, none⟩)] #[]]
 res : At W (n + 1) 120 #[.slice none 0 0]
 ok : At W (n + 2) 4 #[.bool false]
 hl : At W bl 28 #[vl]
 ht : At W bt 37 #[vt]
 hv : At W bv 32 #[.int .i64 v.hx, .int .i64 v.hy, .int .i64 v.cp, .int .i64 v.st, .int .i64 v.en]
 below : Below g w W
theorem went {w : World} {v : Vh} {vl vt : Value} {g bl bt bv n : Nat} {pre : List (Sp × Vi)} {y : Sp × Vi} {W W' : World} (x : Option Addr) (cap : Nat) {row : Option Nat} (h : TripH w v vl vt g bl bt bv n (pre ++ [y]) W) (hg : g < n) (hb : bl < n ∧ bt < n ∧ bv < n) (hw : w.heap.size = n) (hc : ∃ u, At W (n + 3) 120 #[u])
 (hgr : W.grownBy W' row) (hr : ∀ r, row = some r → n + 6 ≤ r) (hown : W'.ownsRow (n + 6) 152 3 (.slice x (pre.length + 1) cap) (pre.length + 1) (flatT (tmsL pre) ++ [.int .i64 (arV y.1 y.2), .int .i64 (beV y.1 y.2), .int .i64 (beV y.1 y.2 + y.2.sv)])) :
 TripI w v vl vt g bl bt bv n (pre ++ [y]) (W'.setCell ⟨n + 3, 0, none⟩ (.slice x (pre.length + 1) cap)) := by
 obtain ⟨o1, o2, hs⟩ := h.spot
 obtain ⟨u, hc⟩ := hc
 refine ⟨⟨o1, o2, (At.under hs hgr hr (by omega)).far (by omega) _ _⟩, (At.under h.fn hgr hr (by omega)).far (by omega) _ _, (At.under h.res hgr hr (by omega)).far (by omega) _ _, (At.under h.ok hgr hr (by omega)).far (by omega) _ _, fun hp => ⟨x, cap, ?_, ?_⟩, (At.under h.hl hgr hr (by omega)).far (by omega) _ _, (At.under h.ht hgr hr (by omega)).far (by omega) _ _, (At.under h.hv hgr hr (by omega)).far (by omega) _ _,
  (h.below.grown hgr (Nat.le_of_lt hs.inside) (fun k e => by have := hr k e; omega)).setCell (by simp; omega) _⟩
 · have := (At.under hc hgr hr (by omega)).put 0 (.slice x (pre.length + 1) cap)
   simpa using this
 · have := owns_far hown (b := n + 3) (by omega) 0 (.slice x (pre.length + 1) cap)
   rw [tmsL_snoc, flatT_snoc]
   simpa [tmV] using this
def tripL (v : Vh) (l : List (Int × Int)) (t : List Rq) : List (Sp × Vi) := stepsL (sp0 v) (visL t l ++ [homeV v])
def Mild (v : Vh) (l : List (Int × Int)) (t : List Rq) : Prop := ∀ (pre rest : List (Sp × Vi)) (y : Sp × Vi), tripL v l t = pre ++ y :: rest → (∀ z ∈ pre, good z = true) → 0 ≤ arV y.1 y.2 ∧ arV y.1 y.2 ≤ 1000000000 ∧ 0 ≤ beV y.1 y.2 + y.2.sv ∧ beV y.1 y.2 + y.2.sv ≤ 1000000000
set_option maxRecDepth 100000 in
set_option maxHeartbeats 4000000 in
theorem trip_any (v : Vh) (l : List (Int × Int)) (t : List Rq) (hl : l.length ≤ 1000000) (vl vt : Value) (g bl bt bv : Nat) (w : World) (hmild : Mild v l t) (hP : At w g 164 #[.int .i64 0, .int .i64 0, .int .i64 v.st, .int .i64 v.hx, .int .i64 v.hy])
 (hV : VisAt g bl bt bv vl vt v l t w) (hne : bl ≠ g ∧ bt ≠ g ∧ bv ≠ g) :
 Calls Tryz.prog 80 #[.func (.func 98) #[] #[.pointer (some ⟨bl, 0, none⟩), .pointer (some ⟨bt, 0, none⟩), .pointer (some ⟨bv, 0, none⟩)], .func (.func 82) #[.pointer (some ⟨g, 0, none⟩)] #[]] w fun e w' =>
  (∃ u, e = .returned (.tuple #[u, .bool ((tripL v l t).all good)]) ∧ ((tripL v l t).all good = true → Tms w'.heap.size w' u (tmsL (tripL v l t)))) ∧ Below g w w' := by
 have hgw := hP.inside
 have hxs : (tripL v l t).map (·.2) = visL t l ++ [homeV v] := stepsL_vis _ _
 have hlen : (tripL v l t).length ≤ 1000001 := by unfold tripL; rw [stepsL_length]; simp [visL]; omega
 have hstep : ∀ (pre rest : List (Sp × Vi)) (y : Sp × Vi), tripL v l t = pre ++ y :: rest → y.1 = endA (sp0 v) (pre.map (·.2)) := fun pre rest y e => stepsL_get e
 unfold Mild at hmild
 obtain ⟨xs, hX⟩ : ∃ xs, tripL v l t = xs := ⟨_, rfl⟩
 rw [hX] at hxs hlen hstep hmild ⊢
 clear hX
 obtain ⟨i0, hi, hz0, hz1, hz2⟩ := info_parts info_time
 obtain ⟨n, hn⟩ : ∃ n, w.heap.size = n := ⟨_, rfl⟩
 obtain ⟨w1, hw1⟩ : ∃ w1, (((w.alloc (.cells #[.func (.func 82) #[.pointer (some ⟨g, 0, none⟩)] #[]] 170)).alloc (.cells #[.slice none 0 0] 120)).alloc (.cells #[.bool false] 4)).alloc (.cells #[.slice none 0 0] 120) = w1 := ⟨_, rfl⟩
 have hs1 : w1.heap.size = n + 4 := by rw [← hw1, ← hn]; simp
 have hI0 : TripI w v vl vt g bl bt bv n [] w1 := by
  rw [← hw1]
  refine ⟨⟨0, 0, (((hP.alloc _).alloc _).alloc _).alloc _⟩, (((At.new_ _ _ _ hn.symm).alloc _).alloc _).alloc _, ((At.new_ _ _ _ (by simp [hn])).alloc _).alloc _, (At.new_ _ _ _ (by simp [hn])).alloc _, fun _ => ⟨none, 0, At.new_ _ _ _ (by simp [hn]), World.ownsRow_nil _ _ _ _⟩,
   (((hV.hl.alloc _).alloc _).alloc _).alloc _, (((hV.ht.alloc _).alloc _).alloc _).alloc _, (((hV.hv.alloc _).alloc _).alloc _).alloc _, ((((Below.refl _ _).alloc (by omega) _).alloc (by simp; omega) _).alloc (by simp; omega) _).alloc (by simp; omega) _⟩
 have hrun := visits_runs v l t vl vt bl bt bv g (w1.heap.size + 2) (by omega) xs hxs (TripI w v vl vt g bl bt bv n) (fun p A hA => ⟨hA.hl, hA.ht, hA.hv, hV.row.keep hA.below (Nat.le_refl _), hV.rqs.keep hA.below (Nat.le_refl _)⟩)
 have hlV := hV.hl.inside
 have htV := hV.ht.inside
 have hvV := hV.hv.inside
 have hgn : g < n := by omega
 have hbn : bl < n ∧ bt < n ∧ bv < n := by omega
 have hI0' := Lib.hid hI0
 have hrun' := Lib.hid hrun
 have hw1' := Lib.hid hw1
 have hstep' := Lib.hid hstep
 have hmild' := Lib.hid hmild
 have hlen' := Lib.hid hlen
 clear hI0 hrun hw1 hstep hmild hlen hV hP hxs hgw hlV htV hvV
 refine (callsIn_wide (n := 3)).1 ?_
 refine callsIn_of_wp_marks Tryz.func80 rfl trivial ?_ rfl
 simp only [Tryz.ntmps80, List.size_toArray, List.length_cons, List.length_nil, Nat.reduceAdd, Nat.reduceSub, Array.replicate_succ, Array.replicate_zero, List.push_toArray, List.append_toArray, List.nil_append, List.cons_append]
 gi_wp2_with fail
 rw [hw1'.out]
 refine rangesRound2 (gf := 98) (fst := #[]) (lb := #[.pointer (some ⟨bl, 0, none⟩), .pointer (some ⟨bt, 0, none⟩), .pointer (some ⟨bv, 0, none⟩)]) rfl (enters_of Tryz.func98 (by kernel_rfl) rfl) (encs := encV) (good := good) (xs := xs) (fun _ => rfl)
  (TripI w v vl vt g bl bt bv n) (TripI.old (by omega)) hI0'.out hrun'.out ?round ?done ?stop
 case round =>
  rintro l2 pre y Wr ⟨rest, hx⟩ hW2 - hg
  have hy1 := hstep'.out pre rest y hx
  obtain ⟨hm1, hm2, hm3, hm4⟩ := hmild'.out pre rest y hx hg
  have hpl : pre.length ≤ 1000001 := by have := hlen'.out; rw [hx] at this; simp at this; omega
  dsimp only [encV]
  gi_wp2
  refine ⟨World.grownBy_alloc _ _ _, fun Vr hVs hVb hI2 => ?_⟩
  have hX : At Vr Wr.heap.size 189 #[.int .i64 y.2.px, .int .i64 y.2.py, .int .i64 y.2.we, .int .i64 y.2.wl, .int .i64 y.2.sv] := (hVb _ (by omega)).trans (At.new Wr _ _)
  have hVs' : n + 6 < Vr.heap.size := by have := hX.inside; omega
  have x0 := hX.cell 0
  have x1 := hX.cell 1
  have x2 := hX.cell 2
  have x3 := hX.cell 3
  have x4 := hX.cell 4
  have f0 := hI2.fn.cell 0
  simp at x0 x1 x2 x3 x4 f0
  obtain ⟨o1, o2, hsp⟩ := hI2.spot
  rw [← hy1] at hsp
  have hgo := goOn_any y.1.now y.1.px y.1.py o1 o2 y.2.px y.2.py y.2.we y.2.wl y.2.sv _ (arV y.1 y.2) (beV y.1 y.2) (good y) g Vr hsp rfl rfl rfl rfl hm1 hm2 hm3 hm4
  have hI2' := Lib.hid hI2
  have hg' := Lib.hid hg
  have hy1' := Lib.hid hy1
  clear hVb hVs hX hsp hy1 hg hx hI2 hmild' hstep' hlen' hI0' hrun' hw1' hm1 hm2 hm3 hm4
  gi_wp2_with fail
  refine ⟨trivial, ?_⟩
  refine (callsIn_wide.2 hgo).mono ?_
  clear hgo x0 x1 x2 x3 x4 f0
  rintro e w3 ⟨rfl, hsp3, hG⟩
  have hs3 : n + 6 < w3.heap.size := Nat.lt_of_lt_of_le hVs' hG.size
  have hs31 : n + 1 < w3.heap.size := by omega
  have hs32 : n + 2 < w3.heap.size := by omega
  have hs33 : n + 3 < w3.heap.size := by omega
  have hH3 : Held w1.heap.size Vr w3 := Held.grown hG (by omega) (fun r e => by cases e; omega)
  have hE3 : endA (sp0 v) ((pre ++ [y]).map (·.2)) = goV y.1 y.2 := by rw [List.map_append, List.map_singleton, endA_snoc, hy1'.out]
  obtain ⟨x, cap, htc, htO⟩ := hI2'.out.times hg'.out
  have htc3 : At w3 (n + 3) 120 #[.slice x pre.length cap] := At.grownOff htc hG (by omega)
  have htO3 := owns_old htO hG (fun r e => .inl (by cases e; omega))
  cases hgood : good y
  · have hI3 : TripI w v vl vt g bl bt bv n (pre ++ [y]) w3 := by
     refine ⟨⟨_, _, by rw [hE3]; exact hsp3⟩, At.grownOff hI2'.out.fn hG (by omega), At.grownOff hI2'.out.res hG (by omega), At.grownOff hI2'.out.ok hG (by omega), fun hp => (by have := good_last hp; rw [hgood] at this; cases this), At.grownOff hI2'.out.hl hG (by omega), At.grownOff hI2'.out.ht hG (by omega), At.grownOff hI2'.out.hv hG (by omega),
      hI2'.out.below.grown hG (by omega) (fun k e => by cases e; exact Nat.le_refl _)⟩
    have r0 := hI3.res.cell 0
    have rf := hI3.res.free 0
    have k0 := hI3.ok.cell 0
    have kf := hI3.ok.free 0
    simp at r0 k0
    have hI3' := Lib.hid hI3
    clear hI3 hsp3 hG htc htO htc3 htO3 hI2'
    gi_wp2
    refine ⟨hgood, ?_, ?_⟩
    · exact (TripI.old (m := n) (by omega)).new (TripI.setOk (TripI.setRes hI3'.out hgn hbn hn) hgn hbn hn) _
    · exact (hH3.trans ((Held.setCell _ (by rw [hs1]; omega) (by rw [hs1]; omega) _).trans (Held.setCell _ (by rw [hs1]; omega) (by rw [hs1]; omega) _))).trans (Held.alloc _ _ (by simp; omega))
  · have hI3 : ∀ (x : Option Addr) (cap : Nat) (W : World) (row : Option Nat), w3.grownBy W row → (∀ r, row = some r → n + 6 ≤ r) → W.ownsRow (n + 6) 152 3 (.slice x (pre.length + 1) cap) (pre.length + 1) (flatT (tmsL pre) ++ [.int .i64 (arV y.1 y.2), .int .i64 (beV y.1 y.2), .int .i64 (beV y.1 y.2 + y.2.sv)]) →
     TripI w v vl vt g bl bt bv n (pre ++ [y]) (W.setCell ⟨n + 3, 0, none⟩ (.slice x (pre.length + 1) cap)) := fun x cap W row hgr hr ho => by
     obtain ⟨o1, o2, _⟩ := hI2'.out.spot
     refine went _ _ ?_ hgn hbn hn ⟨_, htc3⟩ hgr hr ho
     exact ⟨⟨_, _, by rw [hE3]; exact hsp3⟩, At.grownOff hI2'.out.fn hG (by omega), At.grownOff hI2'.out.res hG (by omega), At.grownOff hI2'.out.ok hG (by omega), At.grownOff hI2'.out.hl hG (by omega), At.grownOff hI2'.out.ht hG (by omega), At.grownOff hI2'.out.hv hG (by omega),
      hI2'.out.below.grown hG (by omega) (fun k e => by cases e; exact Nat.le_refl _)⟩
    have r0 := htc3.cell 0
    have rf := htc3.free 0
    simp at r0
    have hI3' := Lib.hid hI3
    have htO3' := Lib.hid htO3
    have htc3' := Lib.hid htc3
    clear hI3 hsp3 hG htc htO htc3 htO3 hI2'
    gi_wp2_with (gi_at_builtin; refine wpListIn_append_own _ rfl _ _ 120 rfl (n + 6) 152 i0 (.agg #[.int .i64 0, .int .i64 0, .int .i64 0]) 3 24 Tryz.underlying120 hi hz0 hz1 hz2 rfl (by decide) _ _ _ rfl ((htO3'.out.alloc _).alloc _) ⟨w3.heap.size + 1, 0, none⟩ 1 1 [.int .i64 (arV y.1 y.2), .int .i64 (beV y.1 y.2), .int .i64 (beV y.1 y.2 + y.2.sv)] rfl rfl (World.news_of_block (cs := #[.int .i64 (arV y.1 y.2), .int .i64 (beV y.1 y.2), .int .i64 (beV y.1 y.2 + y.2.sv)]) (t := 152) (fr := (0, 0)) (by simpa using heap_alloc_new (w3.alloc _) _)) (by simp [Value.oneCell']) (by unfold maxLen; omega) (by omega) (by simp; omega) ?_; intro v7 w7 hown7 hgrow7 hnil7; obtain ⟨x7, c7, rfl, _, _⟩ := owns_slice hown7; have hr7 := owns_row htO3'.out; have ht7 := At.under ((htc3'.out.alloc _).alloc _) hgrow7 hr7 (m := n + 6) (by omega); have c7 := ht7.cell 0; have f7 := ht7.free 0; simp at c7)
    refine ⟨hgood, ?_, ?_⟩
    · have hG7 := (((World.grownBy_alloc w3 _ _).trans (World.grownBy_alloc _ _ _)).trans hgrow7)
      exact hI3'.out _ _ _ _ hG7 hr7 hown7
    · refine hH3.trans (Held.trans ?_ (Held.setCell _ (by rw [hs1]; omega) (by rw [hs1]; omega) _))
      have hG7 := (((World.grownBy_alloc w3 _ _).trans (World.grownBy_alloc _ _ _)).trans hgrow7)
      exact Held.grown hG7 (by omega) (fun r e => by have := hr7 r e; omega)
 case done =>
  rintro Wr hW2 hI2 hall hD
  have hX2 : Hid (xs.all good = true) := Lib.hid (List.all_eq_true.2 hall)
  obtain ⟨x, cap, htc, htO⟩ := hI2.times hall
  have hbel := hI2.below
  have r0 := hI2.res.cell 0
  have rf := hI2.res.free 0
  have k0 := hI2.ok.cell 0
  have kf := hI2.ok.free 0
  have t0 := htc.cell 0
  simp at r0 k0 t0
  have hs2 : n + 6 ≤ Wr.heap.size := by omega
  have hs31 : n + 1 < Wr.heap.size := by omega
  have hs32 : n + 2 < Wr.heap.size := by omega
  have hres := hI2.res
  have hok := hI2.ok
  clear hI2 hall
  gi_wp2
  obtain ⟨W', hW'⟩ : ∃ W', (Wr.setCell ⟨n + 1, 0, none⟩ (.slice x xs.length cap)).setCell ⟨n + 2, 0, none⟩ (.bool true) = W' := ⟨_, rfl⟩
  have hD2 : W'.heap[w1.heap.size]? = some (.deferred (some [])) := by
   rw [← hW']
   exact (Below.heap_setCell _ _ _ _ (by show w1.heap.size ≠ n + 2; omega)).trans ((Below.heap_setCell _ _ _ _ (by show w1.heap.size ≠ n + 1; omega)).trans hD)
  have hr3 : At W' (n + 1) 120 #[.slice x xs.length cap] := by rw [← hW']; simpa using (hres.put 0 (.slice x xs.length cap)).far (by omega) _ _
  have hk3 : At W' (n + 2) 4 #[.bool true] := by rw [← hW']; simpa using (hok.far (b := n + 1) (by omega) 0 (.slice x xs.length cap)).put 0 (.bool true)
  have hO3 : W'.ownsRow (n + 6) 152 3 (.slice x xs.length cap) xs.length (flatT (tmsL xs)) := by rw [← hW']; exact owns_far (owns_far htO (by omega) _ _) (by omega) _ _
  have hB3 : Below g w W' := by rw [← hW']; exact (hbel.setCell (by simp; omega) _).setCell (by simp; omega) _
  rw [hW']
  have hr4 : At (W'.putObj w1.heap.size (.deferred none)) (n + 1) 120 #[.slice x xs.length cap] := (World.putObj_heap_other (by omega)).trans hr3
  have hk4 : At (W'.putObj w1.heap.size (.deferred none)) (n + 2) 4 #[.bool true] := (World.putObj_heap_other (by omega)).trans hk3
  have hO4 := owns_old hO3 (grownBy_putObj' W' w1.heap.size (.deferred none)) (fun r e => .inr (by cases e; exact ⟨_, hD2, rfl⟩))
  have hB4 : Below g w (W'.putObj w1.heap.size (.deferred none)) := hB3.grown (grownBy_putObj' _ _ _) (by have := hB3.size; omega) (fun r e => by cases e; omega)
  have hc1 := hr4.cell 0
  have hc2 := hk4.cell 0
  simp at hc1 hc2
  refine ⟨by simp, .inl ⟨_, _, rfl, run_takeDeferred hD2, ?_⟩⟩
  refine ⟨.tuple #[.slice x xs.length cap, .bool true], by simp [results, Tryz.results80, go_sem, hc1, hc2], ⟨_, by rw [hX2.out], fun _ => ?_⟩, hB4⟩
  exact Tms.of_owns hO4 (by simp [tmsL]) (Nat.le_refl _)
 case stop =>
  rintro Wr hW2 hI2 hbad hD
  have hX2 : Hid (xs.all good = false) := Lib.hid (by cases h : xs.all good; rfl; exact absurd (List.all_eq_true.1 h) hbad)
  have hr4 : At (Wr.putObj w1.heap.size (.deferred none)) (n + 1) 120 #[.slice none 0 0] := (World.putObj_heap_other (by omega)).trans hI2.res
  have hk4 : At (Wr.putObj w1.heap.size (.deferred none)) (n + 2) 4 #[.bool false] := (World.putObj_heap_other (by omega)).trans hI2.ok
  have hB4 : Below g w (Wr.putObj w1.heap.size (.deferred none)) := hI2.below.grown (grownBy_putObj' _ _ _) (by have := hI2.below.size; omega) (fun r e => by cases e; omega)
  have hc1 := hr4.cell 0
  have hc2 := hk4.cell 0
  simp at hc1 hc2
  clear hI2 hbad
  gi_wp2
  refine ⟨by simp, .inl ⟨_, _, rfl, run_takeDeferred hD, ?_⟩⟩
  exact ⟨.tuple #[.slice none 0 0, .bool false], by simp [results, Tryz.results80, go_sem, hc1, hc2], ⟨_, by rw [hX2.out], fun h => by rw [hX2.out] at h; cases h⟩, hB4⟩
end Go.Proofs.YteclpblfleakhaaGreatDoor.When
namespace Go.Proofs.YteclpblfleakhaaGreatDoor.When
open Go.RowKit Go.Proofs.YteclpblfleakhaaGreatDoor.Order Go.Proofs.YteclpblfleakhaaGreatDoor.Place Go.Proofs.YteclpblfleakhaaGreatDoor.Window Go.Proofs.YteclpblfleakhaaGreatDoor.Up
set_option linter.unusedVariables false
theorem wait_bd (e l t : Int) : 0 ≤ waitV e l t ∧ waitV e l t ≤ 1048576 := by
 unfold waitV
 cases h : waitB e l t
 · rw [orNil_f]; omega
 · rw [orNil_t]
   have := (waitB_iff e l t).1 h
   omega
theorem steps_bd : ∀ (xs : List Vi) (a : Sp), 0 ≤ a.now → a.now ≤ 1049576 → (∀ x ∈ xs, 0 ≤ x.sv ∧ x.sv ≤ 1000) → ∀ (pre rest : List (Sp × Vi)) (y : Sp × Vi), stepsL a xs = pre ++ y :: rest →
 0 ≤ y.1.now ∧ y.1.now ≤ 1049576 ∧ 0 ≤ y.2.sv ∧ y.2.sv ≤ 1000
 | [], a, _, _, _, pre, rest, y, h => by cases pre <;> cases h
 | x :: xs, a, h1, h2, hx, pre, rest, y, h => by
  cases pre with
  | nil =>
   rw [stepsL, List.nil_append] at h
   injection h with h _
   subst h
   have := hx x (List.mem_cons_self ..)
   exact ⟨h1, h2, this.1, this.2⟩
  | cons z pre =>
   rw [stepsL, List.cons_append] at h
   injection h with _ h
   have hb := wait_bd x.we x.wl (arV a x)
   have hs := hx x (List.mem_cons_self ..)
   exact steps_bd xs (goV a x) (by show 0 ≤ beV a x + x.sv; unfold beV; omega) (by show beV a x + x.sv ≤ _; unfold beV; omega) (fun u hu => hx u (List.mem_cons_of_mem _ hu)) pre rest y h
theorem chk_sv {q : Rq} (h : q.chk = 0) : 0 ≤ q.sv ∧ q.sv ≤ 1000 := by
 unfold Rq.chk at h
 exact ((chk_iff ..).1 h).2.2.2
theorem veh_bd {v : Vh} (h : v.chk = 0) : 0 ≤ v.st ∧ v.st ≤ 1048576 ∧ v.st ≤ v.en ∧ v.en ≤ 1048576 := by
 unfold Vh.chk at h
 have := (veh_iff ..).1 h
 omega
theorem vis_sv {t : List Rq} (ht : ∀ q ∈ t, q.chk = 0) (s : Int × Int) : 0 ≤ (visV t s).sv ∧ (visV t s).sv ≤ 1000 := by
 cases h : visO t s with
 | none => rw [(vis_none h).1]; unfold noVi; simp
 | some x =>
  rw [(vis_some h).1]
  obtain ⟨q, hq, _, _, hsv, _⟩ := visO_some h
  rw [hsv]
  exact chk_sv (ht q (List.mem_of_getElem? hq))
theorem all_sv {v : Vh} {l : List (Int × Int)} {t : List Rq} (ht : ∀ q ∈ t, q.chk = 0) : ∀ x ∈ visL t l ++ [homeV v], 0 ≤ x.sv ∧ x.sv ≤ 1000 := by
 intro x hx
 rcases List.mem_append.1 hx with hx | hx
 · obtain ⟨s, _, rfl⟩ := List.mem_map.1 hx
   exact vis_sv ht s
 · obtain rfl := List.mem_singleton.1 hx
   unfold homeV
   simp
theorem mild_of {v : Vh} {l : List (Int × Int)} {t : List Rq} (h : wrongV v l t = 0) : Mild v l t := by
 obtain ⟨h1, h2, _, _⟩ := wrong_bits v l t h
 have hv := veh_bd h1
 intro pre rest y e _
 have hb := steps_bd _ (sp0 v) (by show 0 ≤ v.st; omega) (by show v.st ≤ _; omega) (all_sv h2) pre rest y e
 have hd := distV_bd (y.1.px, y.1.py) (y.2.px, y.2.py)
 have hw := wait_bd y.2.we y.2.wl (arV y.1 y.2)
 unfold beV arV at *
 omega
theorem tripL_eq (v : Vh) (l : List (Int × Int)) (t : List Rq) : tripL v l t = stepsL (sp0 v) (visL t l) ++ [(endA (sp0 v) (visL t l), homeV v)] := by
 unfold tripL
 rw [stepsL_append]
 rfl
theorem trip_tms (v : Vh) (l : List (Int × Int)) (t : List Rq) : tmsL (tripL v l t) = rowT v l t ++ [tmV (endA (sp0 v) (visL t l)) (homeV v)] := by
 rw [tripL_eq, tmsL_snoc]
 rfl
theorem rowT_length (v : Vh) (l : List (Int × Int)) (t : List Rq) : (rowT v l t).length = l.length := by
 unfold rowT tmsL
 rw [List.length_map, stepsL_length]
 simp [visL]
theorem trip_good {v : Vh} {l : List (Int × Int)} {t : List Rq} (h : wrongV v l t = 0) : (tripL v l t).all good = okT v l t := by
 obtain ⟨h1, _, _, _⟩ := wrong_bits v l t h
 have hv := veh_bd h1
 rw [tripL_eq, List.all_append]
 unfold okT allB
 congr 1
 show (good (endA (sp0 v) (visL t l), homeV v) && true) = _
 rw [Bool.and_true]
 show waitB 0 v.en (endT v l t) = decide (endT v l t ≤ v.en)
 rw [Bool.eq_iff_iff, waitB_iff, decide_eq_true_eq]
 omega
theorem errT_wrong {v : Vh} {l : List (Int × Int)} {t : List Rq} (h : wrongV v l t ≠ 0) : errT v l t = wrongV v l t := by unfold errT; rw [if_pos h]
theorem errT_late {v : Vh} {l : List (Int × Int)} {t : List Rq} (h : wrongV v l t = 0) (hb : okT v l t = false) : errT v l t = 9 := by unfold errT; rw [if_neg (by omega), hb]; rfl
theorem errT_ok {v : Vh} {l : List (Int × Int)} {t : List Rq} (h : wrongV v l t = 0) (hb : okT v l t = true) : errT v l t = 0 := by unfold errT; rw [if_neg (by omega), hb]; rfl
theorem errT_zero {v : Vh} {l : List (Int × Int)} {t : List Rq} (h : errT v l t = 0) : wrongV v l t = 0 ∧ okT v l t = true := by
 unfold errT at h
 split at h
 · rename_i h1; exact absurd h h1
 · rename_i h1
   split at h
   · rename_i h2; exact ⟨by omega, h2⟩
   · omega
theorem timesL_ok {v : Vh} {l : List (Int × Int)} {t : List Rq} (h : errT v l t = 0) : timesL v l t = rowT v l t := by unfold timesL; rw [if_pos h]
theorem timesL_no {v : Vh} {l : List (Int × Int)} {t : List Rq} (h : errT v l t ≠ 0) : timesL v l t = [] := by unfold timesL; rw [if_neg h]
theorem homeT_ok {v : Vh} {l : List (Int × Int)} {t : List Rq} (h : errT v l t = 0) : homeT v l t = endT v l t := by unfold homeT; rw [if_pos h]
theorem homeT_no {v : Vh} {l : List (Int × Int)} {t : List Rq} (h : errT v l t ≠ 0) : homeT v l t = 0 := by unfold homeT; rw [if_neg h]
def TmOk (x : Tm) : Prop := (0 ≤ x.ar ∧ x.ar ≤ 3000000) ∧ (0 ≤ x.be ∧ x.be ≤ 3000000) ∧ (0 ≤ x.lv ∧ x.lv ≤ 3000000)
theorem tms_ok : ∀ (xs : List Vi) (a : Sp), 0 ≤ a.now → a.now ≤ 1049576 → (∀ x ∈ xs, 0 ≤ x.sv ∧ x.sv ≤ 1000) → (∀ x ∈ tmsL (stepsL a xs), TmOk x) ∧ 0 ≤ (endA a xs).now ∧ (endA a xs).now ≤ 1049576
 | [], a, h1, h2, _ => ⟨fun x hx => (by cases hx), h1, h2⟩
 | x :: xs, a, h1, h2, hx => by
  have hb := wait_bd x.we x.wl (arV a x)
  have hs := hx x (List.mem_cons_self ..)
  have hd := distV_bd (a.px, a.py) (x.px, x.py)
  obtain ⟨r1, r2⟩ := tms_ok xs (goV a x) (by show 0 ≤ beV a x + x.sv; unfold beV; omega) (by show beV a x + x.sv ≤ _; unfold beV; omega) (fun u hu => hx u (List.mem_cons_of_mem _ hu))
  refine ⟨fun u hu => ?_, r2⟩
  have hu : u ∈ tmV a x :: tmsL (stepsL (goV a x) xs) := hu
  rcases List.mem_cons.1 hu with rfl | hu
  · unfold TmOk tmV beV arV at *
    dsimp only
    omega
  · exact r1 u hu
theorem times_ok {v : Vh} {l : List (Int × Int)} {t : List Rq} (h : wrongV v l t = 0) : (∀ x ∈ rowT v l t, TmOk x) ∧ (0 ≤ endT v l t ∧ endT v l t ≤ 3000000) ∧ l.length ≤ 16 ∧ (0 ≤ v.st ∧ v.st ≤ 1048576) := by
 obtain ⟨h1, h2, h3, _⟩ := wrong_bits v l t h
 have hv := veh_bd h1
 have hr := tms_ok (visL t l) (sp0 v) (by show 0 ≤ v.st; omega) (by show v.st ≤ _; omega) (fun x hx => all_sv (v := v) h2 x (List.mem_append.2 (.inl hx)))
 have hd := distV_bd ((endA (sp0 v) (visL t l)).px, (endA (sp0 v) (visL t l)).py) ((homeV v).px, (homeV v).py)
 refine ⟨hr.1, ?_, ?_, hv.1, hv.2.1⟩
 · unfold endT arV
   omega
 · unfold Route.checkV at h3
   split at h3
   · omega
   · omega
end Go.Proofs.YteclpblfleakhaaGreatDoor.When

import Derived.Test.YthjdacbgcpldjaaDoorPkInsWay
import Derived.Test.YthjdacbgcpldjaaDoorPkWhenTrip
import Derived.Test.YthjdacbgcpldjaaDoorPkWhenDraft
import Derived.Test.YthjdacbgcpldjaaDoorPkOrderChk
import Derived.Test.YthjdacbgcpldjaaDoorPkRouteLen
import Derived.Test.YthjdacbgcpldjaaDoorPkOpen
import Derived.Test.YthjdacbgcpldjaaDoorPkInsBits

/-
  The contract of the document's Case: a drawn vehicle, a route of all requests but the last one, the requests, and the last one's number.
-/
namespace Go.Proofs.YthjdacbgcpldjaaDoor.Ins
open Go.RowKit Go.Sort Go.Proofs.YthjdacbgcpldjaaDoor.Mem Go.Proofs.YthjdacbgcpldjaaDoor.Route Go.Proofs.YthjdacbgcpldjaaDoor.When
set_option linter.unusedVariables false

set_option maxRecDepth 100000 in
set_option maxHeartbeats 1000000 in
theorem refWithout_own (v : Value) (l : List (Int × Int)) (r : Int) (hl : l.length ≤ 1000000) (w : World) (h : Row w.heap.size w v l) :
    Calls Tryd.prog 28 #[v, .int .i64 r] w fun e w' => (∃ x c, e = .returned (.slice x (woL r l).length c) ∧ w'.ownsRow w.heap.size 66 2 (.slice x (woL r l).length c) (woL r l).length (flatS (woL r l))) ∧ Below w.heap.size w w' := by
  obtain ⟨i0, hi, hz0, hz1, hz2⟩ := info_parts info_stop
  obtain ⟨x, N, cap, rfl, hN', h0', hc1, hc2⟩ := h.opened
  have h' := Lib.hid h
  rw [hN'.out] at hl
  clear h
  go_enter Tryd.func28, Tryd.ntmps28
  go_wp2
  go_loopw [5, 6] (fun u i wr => ∃ k : Nat, k ≤ N ∧ i = .int .i64 k ∧ wr.ownsRow w.heap.size 66 2 u (woL r (l.take k)).length (flatS (woL r (l.take k))) ∧ Below w.heap.size w wr)
    (fun _ i _ => N - (intOf i).toNat)
  case atStart => exact ⟨0, by omega, rfl, by simpa [woL, flatS] using World.ownsRow_nil _ _ _ _, Below.refl _ _⟩
  case round =>
    obtain ⟨k, hk, rfl, hown, hbw⟩ := hrel
    by_cases hlt : k < N
    · obtain ⟨s, hs, _⟩ := drop_get (l := l) (k := k) (by rw [hN'.out]; exact hlt)
      obtain ⟨g, o, rfl, hg, e1, e2⟩ := Row.stop h'.out hs
      have e1 := (hbw.cell (p := ⟨g, o + k * 2, none⟩) hg).trans e1
      have e2 := (hbw.cell (p := ⟨g, o + k * 2 + 1, none⟩) hg).trans e2
      have hyes := Lib.hid (wo_succ_yes (r := r) hs)
      have hno := Lib.hid (wo_succ_no (r := r) hs)
      have hln := wo_take_le r l k
      clear hs
      obtain ⟨s1, s2⟩ := s
      simp at e1 e2
      cases h1 : (s1 == r)
      · have hy := Lib.hid (hyes.out (by simpa using h1))
        clear hyes hno
        generalize woL r (l.take k) = L at *
        have hs := hbw.size
        go_wp2_with (at_builtin; refine wpList_append_own _ rfl _ _ 29 rfl w.heap.size 66 i0 (.agg #[.int .i64 0, .int .i64 0]) 2 16 Tryd.underlying29 hi hz0 hz1 hz2 rfl (by decide) _ _ _ rfl (hown.alloc _) ⟨wr.heap.size, 0, none⟩ 1 1 [.int .i64 s1, .int .i64 s2] rfl rfl (World.news_of_block (cs := #[.int .i64 s1, .int .i64 s2]) (t := 66) (fr := (0, 0)) (heap_alloc_new wr _)) (by simp [Value.oneCell']) (by unfold maxLen; omega) (by omega) (by simp; omega) ?_; intro v7 w7 hown7 hgrow7 hnil7)
        have hb7 : Below w.heap.size w w7 := (hbw.alloc hbw.size _).grown hgrow7 (by simp; omega) (owns_row hown)
        go_roundw
        case rel => exact ⟨k + 1, by omega, by go_num, by rw [hy.out, flatS_snoc, List.length_append]; exact hown7, hb7⟩
        case measure => simp [intOf]; omega
      · have hy := Lib.hid (hno.out (by simpa using h1))
        clear hyes hno
        go_wp2
        go_roundw
        case rel => exact ⟨k + 1, by omega, by go_num, by rw [hy.out]; exact hown, hbw⟩
        case measure => simp [intOf]; omega
    · obtain rfl : k = N := by omega
      have he : l.take k = l := by rw [← hN'.out, List.take_length]
      rw [he] at hown
      clear he
      obtain ⟨x, c, rfl, _, _⟩ := owns_slice hown
      have hr := Lib.hid hown
      clear hown
      go_wp2
      go_ret
      exact ⟨⟨_, _, rfl, hr.out⟩, hbw⟩

/-- Only block g turns, and new ones. -/
def Gx (g : Nat) (a b : World) : Prop := a.grownBy b (some g)
theorem Gx.of_below {g : Nat} {a b : World} (h : Below a.heap.size a b) : Gx g a b := ⟨h.os, h.tape, h.output, h.size, fun k hk _ => h.block k hk⟩
theorem Gx.trans {g : Nat} {a b c : World} (h : Gx g a b) (k : Gx g b c) : Gx g a c := World.grownBy.trans h k
theorem Gx.at_ {g b : Nat} {a c : World} {t : TypeId} {cs : Array Value} (h : Gx g a c) (hA : At a b t cs) (hn : b ≠ g) : At c b t cs := At.grownOff hA h hn
theorem Gx.put {g i : Nat} (a : World) (x : Value) : Gx g a (a.setCell ⟨g, i, none⟩ x) := ⟨rfl, rfl, rfl, by simp, fun k hk hn => Below.heap_setCell _ _ _ _ (by show k ≠ g; intro e; exact hn (by rw [e]))⟩
inductive KnG (g : Nat) where
  | val (u : Value)
  | of (p : Value → World → Prop) (hp : ∀ {v w w'}, p v w → Gx g w w' → p v w')
  | any
def KnG.holds {g : Nat} : KnG g → Value → World → Prop
  | .val u, v, _ => v = u
  | .of p _, v, w => p v w
  | .any, _, _ => True
def VG {g : Nat} (ks : List (KnG g)) (i : Nat) (v : Value) (w : World) : Prop := ∀ k, ks[i]? = some k → k.holds v w
section
variable {g : Nat} {ks : List (KnG g)} {i : Nat} {v u : Value} {w w' : World} {p : Value → World → Prop} {hp : ∀ {v w w'}, p v w → Gx g w w' → p v w'}
theorem VG.keep (h : VG ks i v w) (hb : Gx g w w') : VG ks i v w' := fun k hk => by
  have h1 := h k hk
  cases k with
  | val u => exact h1
  | of p hp => exact hp h1 hb
  | any => trivial
theorem VG.val (h : ks[i]? = some (.val u)) (e : v = u) : VG ks i v w := fun k hk => by rw [h] at hk; cases hk; exact e
theorem VG.of (h : ks[i]? = some (.of p hp)) (e : p v w) : VG ks i v w := fun k hk => by rw [h] at hk; cases hk; exact e
theorem VG.any (h : ks[i]? = some .any) : VG ks i v w := fun k hk => by rw [h] at hk; cases hk; trivial
theorem VG.eq (hV : VG ks i v w) (h : ks[i]? = some (.val u)) : v = u := hV _ h
theorem VG.get (hV : VG ks i v w) (h : ks[i]? = some (.of p hp)) : p v w := hV _ h
end
/-- Block g: written by operation s, which waits for operation c; nothing else turns. -/
structure ZS (w0 : World) (s c g : Nat) (T : TypeId) (zs cs : Array Value) (done : Nat → Bool) (W : World) : Prop where
  a : done s = false → At W g T zs ∧ Below w0.heap.size w0 W
  b : done s = true → At W g T cs ∧ done c = true
theorem mark_mono {done : Nat → Bool} {k c : Nat} (h : done c = true) : Sched.mark done k c = true := by
  by_cases e : c = k
  · rw [e]; exact mark_eq
  · rw [mark_ne e]; exact h
theorem ZS.start {s c g : Nat} {T : TypeId} {zs cs : Array Value} {W : World} (h : At W g T zs) : ZS W s c g T zs cs (fun _ => false) W.drew := ⟨fun _ => ⟨h.keep (Below.refl _ _).drew h.inside, (Below.refl _ _).drew⟩, fun h => (by cases h)⟩
theorem ZS.light {w0 : World} {s c g k : Nat} {T : TypeId} {zs cs : Array Value} {done : Nat → Bool} {W W' : World} (h : ZS w0 s c g T zs cs done W) (hs : s ≠ k) (hb : Below W.heap.size W W') : ZS w0 s c g T zs cs (Sched.mark done k) W' :=
  ⟨by rw [mark_ne hs]; exact fun h1 => ⟨(h.a h1).1.keep hb (h.a h1).1.inside, (h.a h1).2.trans (hb.mono (h.a h1).2.size)⟩, by rw [mark_ne hs]; exact fun h1 => ⟨(h.b h1).1.keep hb (h.b h1).1.inside, mark_mono (h.b h1).2⟩⟩
theorem ZS.put {w0 : World} {s c g : Nat} {T : TypeId} {zs cs : Array Value} {done : Nat → Bool} {W' : World} (hc : done c = true) (hA : At W' g T cs) : ZS w0 s c g T zs cs (Sched.mark done s) W' :=
  ⟨by rw [mark_eq]; exact fun h => (by cases h), fun _ => ⟨hA, mark_mono hc⟩⟩

/-- What Case gives. -/
def CaseOk (W : World) (v : Vh) (ul ut : Value) (l : List (Int × Int)) (t : List Rq) : Prop :=
  v.dr ∧ Row W.heap.size W ul (woL ((t.length : Int) - 1) l) ∧ Fine l t.length ∧ l.length ≤ 12 ∧ Rqs W.heap.size W ut t ∧ t.length ≤ 6 ∧ ∀ q ∈ t, q.dr
theorem res_case {fn : Func} {p c d e : Tmp} (h : fn.results = #[.cell p 28, .tmp c, .tmp d, .tmp e]) {tmps : Array Value} {w : World} {g : Nat} {x0 x1 x2 x3 x4 b b2 b3 : Value} (hp : tmps.getD p undef = .pointer (some ⟨g, 0, none⟩)) (hc : tmps.getD c undef = b) (hd : tmps.getD d undef = b2) (he : tmps.getD e undef = b3)
    (hA : At w g 28 #[x0, x1, x2, x3, x4]) : (results fn tmps).run Tryd.prog w = .ok (.tuple #[.agg #[x0, x1, x2, x3, x4], b, b2, b3]) w := by
  have c0 := hA.cell 0
  have c1 := hA.cell 1
  have c2 := hA.cell 2
  have c3 := hA.cell 3
  have c4 := hA.cell 4
  simp at c0 c1 c2 c3 c4
  have hp' : tmps[p]?.getD undef = .pointer (some ⟨g, 0, none⟩) := by simpa using hp
  have hc' : tmps[c]?.getD undef = b := by simpa using hc
  have hd' : tmps[d]?.getD undef = b2 := by simpa using hd
  have he' : tmps[e]?.getD undef = b3 := by simpa using he
  simp only [results, h]
  go_simp

set_option maxRecDepth 100000 in
set_option maxHeartbeats 4000000 in
theorem case_any (xb : Option Addr) (Nb cb : Nat) (bs : List Int) (a b c : Int) (w : World) (hrow : RowB w.heap.size w (.slice xb Nb cb) 1 (bs.map byV)) (hby : ∀ x ∈ bs, 0 ≤ x ∧ x < 256) (ha : 0 ≤ a ∧ a < 256) (hb : 0 ≤ b ∧ b < 256) :
    Calls Tryd.prog 10 #[.agg #[.slice xb Nb cb, .int .u8 a, .int .u8 b, .int .i64 c]] w fun e w' =>
      (∃ v ul ut l t, e = .returned (.tuple #[.agg #[.int .i64 v.hx, .int .i64 v.hy, .int .i64 v.cp, .int .i64 v.st, .int .i64 v.en], ul, ut, .int .i64 ((t.length : Int) - 1)]) ∧ CaseOk w' v ul ut l t) ∧ Below w.heap.size w w' := by
  obtain ⟨q, hq⟩ : ∃ q, w.heap.size = q := ⟨_, rfl⟩
  obtain ⟨w0, hw0⟩ : ∃ w0, (w.alloc (.cells #[.slice xb Nb cb, .int .u8 a, .int .u8 b, .int .i64 c] 24)).alloc (.cells #[.int .i64 0, .int .i64 0, .int .i64 0, .int .i64 0, .int .i64 0] 28) = w0 := ⟨_, rfl⟩
  have hB0 : Below w.heap.size w w0 := by rw [← hw0]; exact ((Below.refl _ _).alloc (Nat.le_refl _) _).alloc (by simp) _
  have hD0 : At w0 q 24 #[.slice xb Nb cb, .int .u8 a, .int .u8 b, .int .i64 c] := by rw [← hw0]; exact (At.new_ _ _ _ hq.symm).alloc _
  have hV0 : At w0 (q + 1) 28 #[.int .i64 0, .int .i64 0, .int .i64 0, .int .i64 0, .int .i64 0] := by rw [← hw0]; exact At.new_ _ _ _ (by simp [hq])
  have hc := parts_new xb Nb cb bs a b c w0 (RowB.on hrow hB0) hby ha hb
  have d0 := hD0.cell 0
  have d1 := hD0.cell 1
  have d2 := hD0.cell 2
  have d3 := hD0.cell 3
  simp at d0 d1 d2 d3
  have hs0 := hV0.inside
  have hsq : q + 2 = w0.heap.size := by rw [← hw0]; simp [hq]
  have hw0' := Lib.hid hw0
  have hq' := Lib.hid hq
  clear hrow hD0 hw0 hq
  go_enter Tryd.func10, Tryd.ntmps10
  go_upto_region 1 with fail
  simp only [hq'.out]
  rw [hw0'.out]
  go_wp2_with fail
  refine hc.mono ?_
  clear hc d0 d1 d2 d3
  rintro e w1 ⟨⟨v, ul, ut, l, t, rfl, hP, hQ1⟩, hb1⟩
  obtain ⟨hdv, hL1, hfn, hl12, hT1, ht6, hdt⟩ := hP
  have hV1 := hV0.keep hb1 hs0
  obtain ⟨p, hp⟩ : ∃ p, w1.heap.size = p := ⟨_, rfl⟩
  obtain ⟨w2, hw2⟩ : ∃ w2, w1.alloc (.cells #[.int .i64 v.hx, .int .i64 v.hy, .int .i64 v.cp, .int .i64 v.st, .int .i64 v.en] 28) = w2 := ⟨_, rfl⟩
  have hA2 : At w2 p 28 #[.int .i64 v.hx, .int .i64 v.hy, .int .i64 v.cp, .int .i64 v.st, .int .i64 v.en] := by rw [← hw2]; exact At.new_ _ _ _ hp.symm
  have hb2 : Below w1.heap.size w1 w2 := by rw [← hw2]; exact (Below.refl _ _).alloc (Nat.le_refl _) _
  have hV2 := hV1.keep hb2 hV1.inside
  have hL2 := Lib.hid (hL1.on hb2)
  have hQ2 := owns_below hQ1 hb2
  have hB2 := Lib.hid ((hB0.trans (hb1.mono hB0.size)).trans (hb2.mono (Nat.le_trans hB0.size hb1.size)))
  obtain ⟨xl, Nl, cl, rfl, hNl, -, -, hlc⟩ := hL1.opened
  obtain ⟨xt, Nt, ct, rfl, hNt0, htc1, htc2, -⟩ := hT1.opened
  have hNt := Lib.hid hNt0
  have hNt6 : Nt ≤ 6 := by omega
  have hl12' := Lib.hid hl12
  have hall := Lib.hid (And.intro hdv (And.intro hfn (And.intro hl12 (And.intro ht6 hdt))))
  have hpq : q + 1 < p := by have := hV1.inside; omega
  have hw2' := Lib.hid hw2
  have hp' := Lib.hid hp
  have hqw : Hid (w.heap.size ≤ q + 1) := Lib.hid (by rw [hq'.out]; exact Nat.le_succ _)
  have hs2 : p < w2.heap.size := hA2.inside
  clear hV0 hV1 hB0 hb1 hb2 hL1 hT1 hQ1 hw2 hp hs0 hNt0 hdv hfn hl12 ht6 hdt
  go_upto_region 2 with fail
  simp only [hp'.out]
  rw [hw2'.out]
  have hgn : Hid (q + 1 < w2.heap.size) := Lib.hid (by omega)
  refine Sched.wp_region_sched 13 (Gx (q + 1)) (VG (g := q + 1) [.val (.agg #[.int .i64 v.hx, .int .i64 v.hy, .int .i64 v.cp, .int .i64 v.st, .int .i64 v.en]), .val (.slice xl Nl cl), .val (.slice xt Nt ct), .val (.int .i64 Nt), .val (.int .i64 ((Nt : Int) - 1)), .of (fun v w => ∃ x c, v = .slice x (woL ((Nt : Int) - 1) l).length c ∧ w.ownsRow w2.heap.size 66 2 (.slice x (woL ((Nt : Int) - 1) l).length c) (woL ((Nt : Int) - 1) l).length (flatS (woL ((Nt : Int) - 1) l))) (fun ⟨x, c, e, h⟩ hb => ⟨x, c, e, owns_old h hb (fun r e => .inl (by cases e; exact hgn.out))⟩), .val (.slice xt Nt ct), .val (.slice xt Nt ct), .val (.int .i64 Nt), .val (.int .i64 ((Nt : Int) - 1)), .any, .of (fun v w => ∃ x c, v = .slice x (woL ((Nt : Int) - 1) l).length c ∧ w.ownsRow w2.heap.size 66 2 (.slice x (woL ((Nt : Int) - 1) l).length c) (woL ((Nt : Int) - 1) l).length (flatS (woL ((Nt : Int) - 1) l))) (fun ⟨x, c, e, h⟩ hb => ⟨x, c, e, owns_old h hb (fun r e => .inl (by cases e; exact hgn.out))⟩), .val (.slice xt Nt ct)]) (fun done _ W => ZS w2 10 5 (q + 1) 28 #[.int .i64 0, .int .i64 0, .int .i64 0, .int .i64 0, .int .i64 0] #[.int .i64 v.hx, .int .i64 v.hy, .int .i64 v.cp, .int .i64 v.st, .int .i64 v.en] done W) (by kernel_rfl) (by kernel_rfl) (by kernel_rfl) (fun h1 h2 => h1.trans h2) (fun h1 h2 => VG.keep h1 h2) (Gx.of_below (Below.refl _ _).drew) (fun _ => ZS.start hV2) (Sched.StepsA.steps (by kernel_rfl) ?hS2) ?hQ2
  case hS2 =>
   simp only [List.take_succ_cons, List.take_zero]
   refine ⟨?_, ?_, ?_, ?_, ?_, ?_, ?_, ?_, ?_, ?_, ?_, ?_, ?_, trivial⟩
   · intro ys done W aa hE hn hF hD hZ hG hO
     replace hE : Gx (q + 1) w2 W := hE
     have o6 := hO 6 (by kernel_rfl)
     replace o6 : aa.tmps[6]? = some (.pointer (some ⟨p, 0, none⟩)) := o6
     have hAt := hE.at_ hA2 (by omega)
     have p0 := hAt.cell 0
     have p1 := hAt.cell 1
     have p2 := hAt.cell 2
     have p3 := hAt.cell 3
     have p4 := hAt.cell 4
     simp at p0 p1 p2 p3 p4
     clear hAt
     go_wp2_with fail
     exact ⟨_, rfl, Gx.of_below (Below.refl _ _), VG.val rfl rfl, hZ.light (by decide) (Below.refl _ _)⟩
   · intro ys done W aa hE hn hF hD hZ hG hO
     replace hE : Gx (q + 1) w2 W := hE
     have o7 := hO 7 (by kernel_rfl)
     replace o7 : aa.tmps[7]? = some (.slice xl Nl cl) := o7
     go_wp2_with fail
     exact ⟨_, rfl, Gx.of_below (Below.refl _ _), VG.val rfl rfl, hZ.light (by decide) (Below.refl _ _)⟩
   · intro ys done W aa hE hn hF hD hZ hG hO
     replace hE : Gx (q + 1) w2 W := hE
     have o8 := hO 8 (by kernel_rfl)
     replace o8 : aa.tmps[8]? = some (.slice xt Nt ct) := o8
     go_wp2_with fail
     exact ⟨_, rfl, Gx.of_below (Below.refl _ _), VG.val rfl rfl, hZ.light (by decide) (Below.refl _ _)⟩
   · intro ys done W aa hE hn hF hD hZ hG hO
     replace hE : Gx (q + 1) w2 W := hE
     have v2 := (hF 2 (by decide) (hD 2 (by kernel_rfl))).eq rfl
     have g2 := hG 2 17 rfl (Nat.le_of_ble_eq_true rfl)
     rw [v2] at g2
     go_wp2_with fail
     exact ⟨_, rfl, Gx.of_below (Below.refl _ _), VG.val rfl rfl, hZ.light (by decide) (Below.refl _ _)⟩
   · intro ys done W aa hE hn hF hD hZ hG hO
     replace hE : Gx (q + 1) w2 W := hE
     have v3 := (hF 3 (by decide) (hD 3 (by kernel_rfl))).eq rfl
     have g3 := hG 3 18 rfl (Nat.le_of_ble_eq_true rfl)
     rw [v3] at g3
     go_wp2_with fail
     exact ⟨_, rfl, Gx.of_below (Below.refl _ _), VG.val rfl rfl, hZ.light (by decide) (Below.refl _ _)⟩
   · intro ys done W aa hE hn hF hD hZ hG hO
     replace hE : Gx (q + 1) w2 W := hE
     have v1 := (hF 1 (by decide) (hD 1 (by kernel_rfl))).eq rfl
     have g1 := hG 1 16 rfl (Nat.le_of_ble_eq_true rfl)
     rw [v1] at g1
     have v4 := (hF 4 (by decide) (hD 4 (by kernel_rfl))).eq rfl
     have g4 := hG 4 19 rfl (Nat.le_of_ble_eq_true rfl)
     rw [v4] at g4
     have hnd : done 10 = false := by
       cases e : done 10
       · rfl
       · have h9 := (hZ.b e).2
         rw [hn] at h9; cases h9
     have hbl := (hZ.a hnd).2
     have hcw := refWithout_own _ l ((Nt : Int) - 1) (by have := hl12'.out; omega) W (hL2.out.on hbl)
     have hsz := hbl.size
     have hZ' := Lib.hid hZ
     clear hZ hbl hnd
     go_wp2_with fail
     refine hcw.mono ?_
     clear hcw
     rintro e W' ⟨⟨x, c, rfl, ho⟩, hb⟩
     replace hb := Lib.hid hb
     replace ho := Lib.hid (owns_more ho hsz)
     go_wp2_with fail
     exact ⟨_, rfl, Gx.of_below hb.out, VG.of rfl ⟨_, _, rfl, ho.out⟩, hZ'.out.light (by decide) hb.out⟩
   · intro ys done W aa hE hn hF hD hZ hG hO
     replace hE : Gx (q + 1) w2 W := hE
     have o8 := hO 8 (by kernel_rfl)
     replace o8 : aa.tmps[8]? = some (.slice xt Nt ct) := o8
     go_wp2_with fail
     exact ⟨_, rfl, Gx.of_below (Below.refl _ _), VG.val rfl rfl, hZ.light (by decide) (Below.refl _ _)⟩
   · intro ys done W aa hE hn hF hD hZ hG hO
     replace hE : Gx (q + 1) w2 W := hE
     have o8 := hO 8 (by kernel_rfl)
     replace o8 : aa.tmps[8]? = some (.slice xt Nt ct) := o8
     go_wp2_with fail
     exact ⟨_, rfl, Gx.of_below (Below.refl _ _), VG.val rfl rfl, hZ.light (by decide) (Below.refl _ _)⟩
   · intro ys done W aa hE hn hF hD hZ hG hO
     replace hE : Gx (q + 1) w2 W := hE
     have v7 := (hF 7 (by decide) (hD 7 (by kernel_rfl))).eq rfl
     have g7 := hG 7 22 rfl (Nat.le_of_ble_eq_true rfl)
     rw [v7] at g7
     go_wp2_with fail
     exact ⟨_, rfl, Gx.of_below (Below.refl _ _), VG.val rfl rfl, hZ.light (by decide) (Below.refl _ _)⟩
   · intro ys done W aa hE hn hF hD hZ hG hO
     replace hE : Gx (q + 1) w2 W := hE
     have v8 := (hF 8 (by decide) (hD 8 (by kernel_rfl))).eq rfl
     have g8 := hG 8 23 rfl (Nat.le_of_ble_eq_true rfl)
     rw [v8] at g8
     go_wp2_with fail
     exact ⟨_, rfl, Gx.of_below (Below.refl _ _), VG.val rfl rfl, hZ.light (by decide) (Below.refl _ _)⟩
   · intro ys done W aa hE hn hF hD hZ hG hO
     replace hE : Gx (q + 1) w2 W := hE
     have v0 := (hF 0 (by decide) (hD 0 (by kernel_rfl))).eq rfl
     have g0 := hG 0 15 rfl (Nat.le_of_ble_eq_true rfl)
     rw [v0] at g0
     have o2 := hO 2 (by kernel_rfl)
     replace o2 : aa.tmps[2]? = some (.pointer (some ⟨q + 1, 0, none⟩)) := o2
     have h10 : done 10 = false := hn
     have hAt := (hZ.a h10).1
     have p0 := hAt.cell 0
     have p1 := hAt.cell 1
     have p2 := hAt.cell 2
     have p3 := hAt.cell 3
     have p4 := hAt.cell 4
     have pf := hAt.free
     have pi := hAt.inside
     simp at p0 p1 p2 p3 p4
     have hAt' := Lib.hid hAt
     have hd5 := Lib.hid (hD 5 (by kernel_rfl))
     clear hZ hAt
     go_wp2_with fail
     exact ⟨Gx.trans (Gx.trans (Gx.trans (Gx.trans (Gx.put _ _) (Gx.put _ _)) (Gx.put _ _)) (Gx.put _ _)) (Gx.put _ _), ⟨undef, VG.any rfl⟩, ZS.put hd5.out (put5 hAt'.out)⟩
   · intro ys done W aa hE hn hF hD hZ hG hO
     replace hE : Gx (q + 1) w2 W := hE
     have v5 := (hF 5 (by decide) (hD 5 (by kernel_rfl))).get rfl
     have g5 := hG 5 20 rfl (Nat.le_of_ble_eq_true rfl)
     obtain ⟨x, c, e5, ho⟩ := v5
     rw [e5] at g5
     replace ho := Lib.hid ho
     go_wp2_with fail
     exact ⟨_, rfl, Gx.of_below (Below.refl _ _), VG.of rfl ⟨_, _, rfl, ho.out⟩, hZ.light (by decide) (Below.refl _ _)⟩
   · intro ys done W aa hE hn hF hD hZ hG hO
     replace hE : Gx (q + 1) w2 W := hE
     have v6 := (hF 6 (by decide) (hD 6 (by kernel_rfl))).eq rfl
     have g6 := hG 6 21 rfl (Nat.le_of_ble_eq_true rfl)
     rw [v6] at g6
     go_wp2_with fail
     exact ⟨_, rfl, Gx.of_below (Below.refl _ _), VG.val rfl rfl, hZ.light (by decide) (Below.refl _ _)⟩
  case hQ2 =>
   intro ys w3 hE hF hZ
   obtain ⟨done, hd, hZ⟩ := hZ
   replace hE : Gx (q + 1) w2 w3 := hE
   have v9 := (hF 9 (by decide)).eq rfl
   have v12 := (hF 12 (by decide)).eq rfl
   obtain ⟨x, c, e11, ho⟩ := (hF 11 (by decide)).get rfl
   have hA3 := (hZ.b (hd 10 (by decide))).1
   have hB3 : Below w.heap.size w w3 := hB2.out.grown hE hB2.out.size (fun r e => by cases e; exact hqw.out)
   have hR3 := Row.of_owns (B := w3.heap.size) ho rfl (Nat.le_refl _)
   have hT3 : Rqs w3.heap.size w3 (.slice xt Nt ct) t := Rqs.of_owns (owns_old hQ2 hE (fun r e => .inl (by cases e; omega))) rfl (Nat.le_refl _)
   simp only [List.take_succ_cons, List.take_zero, List.drop_succ_cons, List.drop_zero, Sched.fill, v9, v12, e11]
   replace hA3 := Lib.hid hA3
   replace hB3 := Lib.hid hB3
   replace hR3 := Lib.hid hR3
   replace hT3 := Lib.hid hT3
   clear hF hE hZ hd v9 v12 e11 ho hV2 hA2
   go_simp
   go_wp2
   refine bodyPost_ret (res_case (b := .slice x (woL ((Nt : Int) - 1) l).length c) (b2 := .slice xt Nt ct) (b3 := .int .i64 ((Nt : Int) - 1)) rfl (by go_simp) (by go_simp) (by go_simp) (by go_simp) hA3.out) rfl ?_
   refine ⟨⟨v, _, _, l, t, by rw [hNt.out], hall.out.1, ?_, hall.out.2.1, hall.out.2.2.1, hT3.out, hall.out.2.2.2.1, hall.out.2.2.2.2⟩, hB3.out⟩
   rw [hNt.out]
   exact hR3.out

end Go.Proofs.YthjdacbgcpldjaaDoor.Ins

/-
  Vehicles and arrays of numbers as arguments; rows cut short.
-/
namespace Go.Proofs.YthjdacbgcpldjaaDoor.Ins
open Go.RowKit Go.ChangeShapes Go.WideShapes Go.ChangeAt Go.Proofs.YthjdacbgcpldjaaDoor.Mem Go.Proofs.YthjdacbgcpldjaaDoor.Route Go.Proofs.YthjdacbgcpldjaaDoor.When
set_option linter.unusedVariables false

theorem RowB.cutB {B : Nat} {W : World} {x : Option Addr} {N cap k m : Nat} {l : List (List Value)} (h : RowB B W (.slice x N cap) m l) (hl : l.length = N) (hk : k ≤ N) : RowB B W (.slice x k cap) m (l.take k) := by
  obtain ⟨x', cap', e, h1, h2, h0, h3⟩ := h
  simp only [Value.slice.injEq] at e
  obtain ⟨rfl, rfl, rfl⟩ := e
  refine ⟨x, cap, by simp; omega, by simp; omega, h2, fun hx => ?_, fun j r hj => ?_⟩
  · have := h0 hx
    simp [this]
  · have hjk : j < k := by
      rcases Nat.lt_or_ge j k with h | h
      · exact h
      · rw [List.getElem?_eq_none (by simp; omega)] at hj; cases hj
    rw [List.getElem?_take_of_lt hjk] at hj
    exact h3 j r hj

theorem Rqs.cutTo {B : Nat} {W : World} {x : Option Addr} {N cap k : Nat} {t : List Rq} (h : Rqs B W (.slice x N cap) t) (hl : t.length = N) (hk : k ≤ N) : Rqs B W (.slice x k cap) (t.take k) := by
  have := RowB.cutB h (by rw [List.length_map]; exact hl) hk
  unfold Rqs
  rw [← List.map_take]  at this
  exact this
section
variable {H : Type} {enc : TypeId × Value → H} {w : World} {base : Nat} {spare : Nat → Bool} {held : Bool}
theorem list5 {α : Type} {cs : Array α} (h : cs.size = 5) : ∃ c0 c1 c2 c3 c4, cs = #[c0, c1, c2, c3, c4] := by
  obtain ⟨l⟩ := cs
  match l, h with
  | [c0, c1, c2, c3, c4], _ => exact ⟨c0, c1, c2, c3, c4, rfl⟩

set_option maxRecDepth 100000 in
theorem openVeh {r : Reach} {b0 : Nat} {v : Value} {d : DataW H} {p : List MemPlace} (hv : Value.okWide Tryd.prog w r b0 28 v) (h : DataW.Trod enc Tryd.prog w base spare held 28 v d p) :
    ∃ x : Vh, v = .agg #[.int .i64 x.hx, .int .i64 x.hy, .int .i64 x.cp, .int .i64 x.st, .int .i64 x.en] := by
  obtain ⟨cs, rfl, hsz⟩ := okWide_struct Tryd.underlying28 hv
  obtain ⟨c0, c1, c2, c3, c4, rfl⟩ := list5 (hsz.trans (by kernel_rfl))
  obtain ⟨fuel, hf⟩ := h
  obtain ⟨_, _, h0⟩ := fieldS (i := 0) Tryd.underlying28 hf rfl
  obtain ⟨_, _, h1⟩ := fieldS (i := 1) Tryd.underlying28 hf rfl
  obtain ⟨_, _, h2⟩ := fieldS (i := 2) Tryd.underlying28 hf rfl
  obtain ⟨_, _, h3⟩ := fieldS (i := 3) Tryd.underlying28 hf rfl
  simp [Value.cells, cellsI, cellsPl] at h0 h1 h2 h3
  obtain ⟨_, _, e0⟩ := fieldS (i := 0) Tryd.underlying26 h0 rfl
  obtain ⟨_, _, e1⟩ := fieldS (i := 1) Tryd.underlying26 h0 rfl
  simp [cellsI] at e0 e1
  obtain ⟨hx, rfl, _⟩ := When.i64_of e0
  obtain ⟨hy, rfl, _⟩ := When.i64_of e1
  obtain ⟨cp, rfl, _⟩ := When.i64_of h1
  obtain ⟨st, rfl, _⟩ := When.i64_of h2
  obtain ⟨en, rfl, _⟩ := When.i64_of h3
  exact ⟨⟨hx, hy, cp, st, en⟩, rfl⟩

set_option maxRecDepth 100000 in
theorem openThree {r : Reach} {b0 : Nat} {v : Value} {d : DataW H} {p : List MemPlace} (hv : Value.okWide Tryd.prog w r b0 36 v) (h : DataW.Trod enc Tryd.prog w base spare held 36 v d p) :
    ∃ a b c : Int, v = .agg #[.int .i64 a, .int .i64 b, .int .i64 c] := by
  obtain ⟨xs, hlen, rfl, _⟩ := Close.open_numbers (n := 3) Tryd.underlying36 Tryd.underlying3 (by kernel_rfl) (by kernel_rfl) hv h
  match xs, hlen with
  | [a, b, c], _ => exact ⟨a, b, c, rfl⟩
theorem byte_ends {x : Int} (h : (Lit.int .u8 x).wf = true) : 0 ≤ x ∧ x < 256 := by have := u8_ends h; omega
set_option maxRecDepth 100000 in
theorem openTwo {r : Reach} {b0 : Nat} {v : Value} {d : DataW H} {p : List MemPlace} (hv : Value.okWide Tryd.prog w r b0 43 v) (h : DataW.Trod enc Tryd.prog w base spare held 43 v d p) :
    ∃ a b : Int, v = .agg #[.int .u8 a, .int .u8 b] ∧ (0 ≤ a ∧ a < 256) ∧ (0 ≤ b ∧ b < 256) := by
  obtain ⟨xs, hlen, rfl, hw⟩ := Close.open_numbers (n := 2) Tryd.underlying43 Tryd.underlying5 (by kernel_rfl) (by kernel_rfl) hv h
  match xs, hlen, hw with
  | [a, b], _, hw => exact ⟨a, b, rfl, byte_ends (hw a (by simp)), byte_ends (hw b (by simp))⟩
set_option maxRecDepth 100000 in
theorem openSix {r : Reach} {b0 : Nat} {v : Value} {d : DataW H} {p : List MemPlace} (hv : Value.okWide Tryd.prog w r b0 62 v) (h : DataW.Trod enc Tryd.prog w base spare held 62 v d p) :
    ∃ xs : List Int, xs.length = 6 ∧ v = .agg (xs.map (Value.int .u8)).toArray ∧ ∀ x ∈ xs, 0 ≤ x ∧ x < 256 := by
  obtain ⟨xs, hlen, rfl, hw⟩ := Close.open_numbers (n := 6) Tryd.underlying62 Tryd.underlying5 (by kernel_rfl) (by kernel_rfl) hv h
  exact ⟨xs, hlen, rfl, fun x hx => byte_ends (hw x hx)⟩
end
end Go.Proofs.YthjdacbgcpldjaaDoor.Ins

/-
  InsertTells returns true, whatever the draft, the numbers and memory are. Generated: InsTells.gen.py.
-/
namespace Go.Proofs.YthjdacbgcpldjaaDoor.Ins
open Go.RowKit Go.Sort Go.Shelf Go.Proofs.YthjdacbgcpldjaaDoor.Mem Go.Proofs.YthjdacbgcpldjaaDoor.Route Go.Proofs.YthjdacbgcpldjaaDoor.When Go.Proofs.YthjdacbgcpldjaaDoor.Load
set_option linter.unusedVariables false

theorem nums_small0 {l : List (Int × Int)} (h : Small l) : Nums l := Small.nums h
theorem small_wo {l : List (Int × Int)} (h : Small l) (r : Int) : Small (woL r l) := fun s hs => h s (List.mem_filter.1 hs).1

/-- What the laws over drafts hold: two vehicles, a route, the requests. -/
structure TwAt (w : World) (gv gu : Nat) (v u : Vh) (vl vt : Value) (l : List (Int × Int)) (t : List Rq) (W : World) : Prop where
  v : At W gv 28 #[.int .i64 v.hx, .int .i64 v.hy, .int .i64 v.cp, .int .i64 v.st, .int .i64 v.en]
  u : At W gu 28 #[.int .i64 u.hx, .int .i64 u.hy, .int .i64 u.cp, .int .i64 u.st, .int .i64 u.en]
  l : Row W.heap.size W vl l
  t : Rqs W.heap.size W vt t
  sg : Sg W
  b : Below w.heap.size w W
theorem TwAt.on {w W W' : World} {gv gu : Nat} {v u : Vh} {vl vt : Value} {l : List (Int × Int)} {t : List Rq} (h : TwAt w gv gu v u vl vt l t W) (hb : Below W.heap.size W W') : TwAt w gv gu v u vl vt l t W' :=
  ⟨h.v.keep hb h.v.inside, h.u.keep hb h.u.inside, h.l.on hb, h.t.on hb, h.sg.on hb, h.b.trans (hb.mono h.b.size)⟩

set_option maxRecDepth 100000 in
set_option maxHeartbeats 8000000 in
theorem insertTells_any (xb : Option Addr) (Nb cb : Nat) (bs : List Int) (a b c A B : Int) (hA : 0 ≤ A ∧ A < 256) (hBb : 0 ≤ B ∧ B < 256) (w : World) (hsg : Sg w) (hrow : RowB w.heap.size w (.slice xb Nb cb) 1 (bs.map byV)) (hby : ∀ x ∈ bs, 0 ≤ x ∧ x < 256) (ha : 0 ≤ a ∧ a < 256) (hb : 0 ≤ b ∧ b < 256) :
    Calls Tryd.prog 3 #[.agg #[.slice xb Nb cb, .int .u8 a, .int .u8 b, .int .i64 c], .int .u8 A, .int .u8 B] w fun e w' => e = .returned (.bool true) ∧ Below w.heap.size w w' := by
  obtain ⟨q, hq⟩ : ∃ q, w.heap.size = q := ⟨_, rfl⟩
  obtain ⟨w0, hw0⟩ : ∃ w0, w.alloc (.cells #[.slice xb Nb cb, .int .u8 a, .int .u8 b, .int .i64 c] 24) = w0 := ⟨_, rfl⟩
  have hB0 : Below w.heap.size w w0 := by rw [← hw0]; exact (Below.refl _ _).alloc (Nat.le_refl _) _
  have hD0 : At w0 q 24 #[.slice xb Nb cb, .int .u8 a, .int .u8 b, .int .i64 c] := by rw [← hw0]; exact At.new_ _ _ _ hq.symm
  have hc := case_any xb Nb cb bs a b c w0 (RowB.on hrow hB0) hby ha hb
  have hsg0 := hsg.on hB0
  have d0 := hD0.cell 0
  have d1 := hD0.cell 1
  have d2 := hD0.cell 2
  have d3 := hD0.cell 3
  simp at d0 d1 d2 d3
  have hs0 := hD0.inside
  have hw0' := Lib.hid hw0
  have hq' := Lib.hid hq
  clear hrow hD0 hw0 hq hsg hby ha hb
  go_enter Tryd.func3, Tryd.ntmps3
  go_upto_region 1 with fail
  simp only [hq'.out]
  rw [hw0'.out]
  go_wp2_with fail
  refine hc.mono ?_
  clear hc d0 d1 d2 d3 hw0'
  rintro e w1 ⟨⟨v, ul, ut, l0, t, rfl, hdv, hL1, hfn, hl12, hT1, ht6, hdt⟩, hb1⟩
  have hnum : Nums (woL ((t.length : Int) - 1) l0) := nums_small0 (small_wo hfn.1 _)
  have hlen : (woL ((t.length : Int) - 1) l0).length ≤ 12 := Nat.le_trans (wo_length _ _) hl12
  generalize woL ((t.length : Int) - 1) l0 = l at hL1 hnum hlen
  obtain ⟨r, hr⟩ : ∃ r : Int, (t.length : Int) - 1 = r := ⟨_, rfl⟩
  have hr6 : -1 ≤ r ∧ r ≤ 5 := by omega
  rw [hr]
  clear hfn hl12 ht6 hdt hr hdv l0
  obtain ⟨p, hp⟩ : ∃ p, w1.heap.size = p := ⟨_, rfl⟩
  obtain ⟨m, hm⟩ : ∃ m, A % 40 = m := ⟨_, rfl⟩
  have hm1 : 0 ≤ m := by omega
  have hm2 : m < 40 := by omega
  have hAr : A.tmod 40 = m := by rw [Int.tmod_eq_emod_of_nonneg hA.1, hm]
  obtain ⟨w3, hw3⟩ : ∃ w3, (w1.alloc (.cells #[.int .i64 v.hx, .int .i64 v.hy, .int .i64 v.cp, .int .i64 v.st, .int .i64 v.en] 28)).alloc (.cells #[.int .i64 v.hx, .int .i64 v.hy, .int .i64 (1 + m), .int .i64 v.st, .int .i64 v.en] 28) = w3 := ⟨_, rfl⟩
  have hV3 : At w3 p 28 #[.int .i64 v.hx, .int .i64 v.hy, .int .i64 v.cp, .int .i64 v.st, .int .i64 v.en] := by rw [← hw3]; exact (At.new_ _ _ _ hp.symm).alloc _
  have hU3 : At w3 (p + 1) 28 #[.int .i64 v.hx, .int .i64 v.hy, .int .i64 (1 + m), .int .i64 v.st, .int .i64 v.en] := by rw [← hw3]; exact At.new_ _ _ _ (by simp [hp])
  have hb3 : Below w1.heap.size w1 w3 := by rw [← hw3]; exact ((Below.refl _ _).alloc (Nat.le_refl _) _).alloc (by simp) _
  have hS3 : Hid (TwAt w p (p + 1) v ⟨v.hx, v.hy, 1 + m, v.st, v.en⟩ ul ut l t w3) := Lib.hid ⟨hV3, hU3, hL1.on hb3, hT1.on hb3, (hsg0.on hb1).on hb3, (hB0.trans (hb1.mono hB0.size)).trans (hb3.mono (Nat.le_trans hB0.size hb1.size))⟩
  have hnum' := Lib.hid hnum
  have hlen' := Lib.hid hlen
  have hl6 : Hid (l.length ≤ 1000000) := Lib.hid (by omega)
  obtain ⟨xl, N, cl, rfl, hN, -, -, hlc⟩ := hL1.opened
  rw [hN.out] at hlen
  have hp' := Lib.hid hp
  have hw3' := Lib.hid hw3
  obtain ⟨xt, Nt, ct, rfl, hNt0, htc1, htc2, -⟩ := hT1.opened
  clear hL1 hT1 hb1 hV3 hU3 hb3 hsg0 hB0 hs0 hp hw3 hnum hNt0 hm hA
  obtain ⟨n, hn⟩ : ∃ n, B % 9 = n := ⟨_, rfl⟩
  have hn1 : 0 ≤ n := by omega
  have hn2 : n < 9 := by omega
  have hBr : B.tmod 9 = n := by rw [Int.tmod_eq_emod_of_nonneg hBb.1, hn]
  clear hn hBb
  go_upto_region 4 with fail
  simp only [hp'.out]
  rw [hw3'.out]
  clear hAr hm1 hm2 hw3' hp'
  go_wp2
  go_loopw [12] (fun i wr => ∃ i' : Int, i = .int .i64 i' ∧ -1 ≤ i' ∧ i' ≤ N + 2 ∧ Hid (TwAt w p (p + 1) v ⟨v.hx, v.hy, 1 + m, v.st, v.en⟩ (.slice xl N cl) (.slice xt Nt ct) l t wr))
    (fun i _ => (N + 2 - intOf i).toNat)
  case atStart => exact ⟨-1, rfl, by omega, by omega, hS3⟩
  case round =>
    clear hS3
    obtain ⟨i, rfl, hi1, hi2, hS⟩ := hrel
    by_cases hlt : i ≤ N + 1
    · obtain ⟨wo, hwo⟩ : ∃ wo, wo = wr := ⟨_, rfl⟩
      subst hwo
      go_wp2
      go_loopw [13] (fun j wr => ∃ j' : Int, j = .int .i64 j' ∧ -1 ≤ j' ∧ j' ≤ N + 2 ∧ Hid (TwAt w p (p + 1) v ⟨v.hx, v.hy, 1 + m, v.st, v.en⟩ (.slice xl N cl) (.slice xt Nt ct) l t wr))
        (fun j _ => (N + 2 - intOf j).toNat)
      case atStart => exact ⟨-1, rfl, by omega, by omega, hS⟩
      case round =>
        clear hS
        obtain ⟨j, rfl, hj1, hj2, hS⟩ := hrel
        by_cases hlj : j ≤ N + 1
        · have hC := alike_any v _ _ l t hl6.out hnum'.out r i j wr hS.out.sg hS.out.l hS.out.t
          have hVc := hS.out.v
          have p0 := hVc.cell 0
          have p1 := hVc.cell 1
          have p2 := hVc.cell 2
          have p3 := hVc.cell 3
          have p4 := hVc.cell 4
          simp at p0 p1 p2 p3 p4
          have hVi := hVc.inside
          clear hVc
          go_wp2_with fail
          refine hC.mono ?_
          clear hC p0 p1 p2 p3 p4 hVi
          rintro e w5 ⟨rfl, hb5⟩
          have hS5 := Lib.hid (hS.out.on hb5)
          clear hb5 hS
          have hC := alike_any ⟨v.hx, v.hy, 1 + m, v.st, v.en⟩ _ _ l t hl6.out hnum'.out r i j w5 hS5.out.sg hS5.out.l hS5.out.t
          have hVc := hS5.out.u
          have p0 := hVc.cell 0
          have p1 := hVc.cell 1
          have p2 := hVc.cell 2
          have p3 := hVc.cell 3
          have p4 := hVc.cell 4
          simp at p0 p1 p2 p3 p4
          have hVi := hVc.inside
          clear hVc
          go_wp2_with fail
          refine hC.mono ?_
          clear hC p0 p1 p2 p3 p4 hVi
          rintro e w6 ⟨rfl, hb6⟩
          have hS6 := Lib.hid (hS5.out.on hb6)
          clear hb6 hS5
          go_wp2
          go_roundw
          case rel => exact ⟨j + 1, by go_num, by omega, by omega, hS6⟩
          case measure => simp [intOf]; omega
        · go_wp2
          go_roundw
          case rel => exact ⟨i + 1, by go_num, by omega, by omega, hS⟩
          case measure => simp [intOf]; omega
    · have hC := alike_any v _ _ l t hl6.out hnum'.out (n - 1) 0 0 wr hS.out.sg hS.out.l hS.out.t
      have hVc := hS.out.v
      have p0 := hVc.cell 0
      have p1 := hVc.cell 1
      have p2 := hVc.cell 2
      have p3 := hVc.cell 3
      have p4 := hVc.cell 4
      simp at p0 p1 p2 p3 p4
      have hVi := hVc.inside
      clear hVc
      go_wp2_with fail
      refine hC.mono ?_
      clear hC p0 p1 p2 p3 p4 hVi
      rintro e w5 ⟨rfl, hb5⟩
      have hS5 := Lib.hid (hS.out.on hb5)
      clear hb5 hS
      go_wp2_with fail
      refine (works_any w5 hS5.out.sg).mono ?_
      rintro e w6 ⟨rfl, hb6⟩
      have hS6 := Lib.hid (hS5.out.on hb6)
      clear hb6 hS5
      go_wp2
      go_ret
      exact ⟨rfl, hS6.out.b⟩

end Go.Proofs.YthjdacbgcpldjaaDoor.Ins

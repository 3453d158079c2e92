import Derived.Test.YthjdacbgcpldjaaDoorPkWhenTrip
import Derived.Test.YthjdacbgcpldjaaDoorPkPlaceDist
import Derived.Test.YthjdacbgcpldjaaDoorPkUp
import Derived.Test.YthjdacbgcpldjaaDoorPkSched
import Derived.Test.YthjdacbgcpldjaaDoorPkSchedAll

/-
  The contracts of package insert's way and wayOf.
-/
namespace Go.Proofs.YthjdacbgcpldjaaDoor.Ins
open Go.RowKit Go.Sort Go.Proofs.YthjdacbgcpldjaaDoor.Mem Go.Proofs.YthjdacbgcpldjaaDoor.Route Go.Proofs.YthjdacbgcpldjaaDoor.When Go.Proofs.YthjdacbgcpldjaaDoor.Load Go.Proofs.YthjdacbgcpldjaaDoor.Place
set_option linter.unusedVariables false

theorem info_place : (Tryd.prog.info? 26).map (fun i => (i.zero, i.size, i.bytes)) = some (some (.agg #[.int .i64 0, .int .i64 0]), 2, 16) := by kernel_rfl

set_option maxRecDepth 100000 in
set_option maxHeartbeats 4000000 in
theorem way_any (ax ay : Int) (vb : Value) (bs : List (Int × Int)) (hl : bs.length ≤ 1000) (w : World) (h : Row w.heap.size w vb bs) :
    Calls Tryd.prog 67 #[.agg #[.int .i64 ax, .int .i64 ay], vb] w fun e w' => e = .returned (.int .i64 (wayD (ax, ay) bs)) ∧ Below w.heap.size w w' := by
  obtain ⟨x, N, cap, rfl, hN', h0, hc1, hc2⟩ := h.opened
  obtain ⟨q, hq⟩ : ∃ q, w.heap.size = q := ⟨_, rfl⟩
  obtain ⟨w0, hw0⟩ : ∃ w0, w.alloc (.cells #[.int .i64 ax, .int .i64 ay] 26) = w0 := ⟨_, rfl⟩
  have hB0 : Below q w w0 := by rw [← hw0]; exact (Below.refl _ _).alloc (by omega) _
  have hA0 : At w0 q 26 #[.int .i64 ax, .int .i64 ay] := by rw [← hw0]; exact At.new_ _ _ _ hq.symm
  rw [hq] at h
  have h' := Lib.hid h
  rw [hN'.out] at hl
  unfold maxLen at hc2
  clear h h0
  go_enter Tryd.func67, Tryd.ntmps67
  go_wp2
  try simp only [hq, hw0]
  clear hw0
  go_loopw [5, 10] (fun m i wr => ∃ (k : Nat) (ms : Int) (lx ly : Int), k ≤ N ∧ m = .int .i64 ms ∧ i = .int .i64 k ∧ Hid (ms = wayD (ax, ay) (bs.take k)) ∧ Hid ((lx, ly) = lastD (ax, ay) (bs.take k)) ∧ At wr q 26 #[.int .i64 lx, .int .i64 ly] ∧ Below q w wr)
    (fun _ i _ => N - (intOf i).toNat)
  case atStart => exact ⟨0, 0, ax, ay, Nat.zero_le _, rfl, rfl, Lib.hid (by simp [wayD]), Lib.hid (by simp [lastD]), hA0, hB0⟩
  case round =>
    obtain ⟨k, ms, lx, ly, hk, rfl, rfl, hms, hla, hA, hbw⟩ := hrel
    by_cases hlt : k < N
    · obtain ⟨⟨b1, b2⟩, hb⟩ : ∃ s, bs[k]? = some s := ⟨bs[k]'(by rw [hN'.out]; exact hlt), List.getElem?_eq_getElem _⟩
      obtain ⟨g, o, rfl, hg, e1, e2⟩ := Row.stop (h'.out.keep hbw (Nat.le_refl _)) hb
      have hd := wayD_take hb (ax, ay)
      rw [← hms.out, ← hla.out] at hd
      have hbd := wayD_bd (bs.take k) (ax, ay)
      rw [← hms.out] at hbd
      have hbk : (bs.take k).length ≤ 1000 := by rw [List.length_take]; omega
      have hbb := Order.distV_bd (lx, ly) (b1, b2)
      obtain ⟨D, hD⟩ : ∃ D, distV (lx, ly) (b1, b2) = D := ⟨_, rfl⟩
      rw [hD] at hbb hd
      have hm1 : 0 ≤ ms ∧ ms ≤ 2046000 := by omega
      have hd' := Lib.hid hd
      obtain ⟨w1, hw1⟩ : ∃ w1, wr.alloc (.cells #[.int .i64 b1, .int .i64 b2] 26) = w1 := ⟨_, rfl⟩
      have hX : At w1 wr.heap.size 26 #[.int .i64 b1, .int .i64 b2] := by rw [← hw1]; exact At.new _ _ _
      have hA1 : At w1 q 26 #[.int .i64 lx, .int .i64 ly] := by rw [← hw1]; exact hA.alloc _
      have hsz : q < wr.heap.size := hA.inside
      have hB1 : Below q w w1 := by rw [← hw1]; exact hbw.alloc (by omega) _
      have hcall := Dist_any lx ly b1 b2 w1
      rw [hD] at hcall
      have a0 := hA1.cell 0
      have a1 := hA1.cell 1
      have x0 := hX.cell 0
      have x1 := hX.cell 1
      simp at e1 e2 a0 a1 x0 x1
      have hxs := hX.inside
      have hA1' := Lib.hid hA1
      have hX' := Lib.hid hX
      have hB1' := Lib.hid hB1
      have hNg : Hid (k + 1 ≤ N) := Lib.hid hlt
      clear hd hms hla hbd hbk hb hD hA hA1 hX hB1 hbw
      go_wp2_with fail
      try simp only [hw1]
      refine hcall.mono ?_
      clear hcall a0 a1 x0 x1 e1 e2 hw1
      rintro e w2 ⟨rfl, hb2⟩
      have hA2 := hA1'.out.keep hb2 (by omega)
      have hX2 := hX'.out.keep hb2 (by omega)
      have hB2 := hB1'.out.trans (hb2.mono (by omega))
      have x0 := hX2.cell 0
      have x1 := hX2.cell 1
      have a0 := hA2.cell 0
      have a1 := hA2.cell 1
      have af := hA2.free
      have hs2 := hA2.inside
      simp at x0 x1 a0 a1
      have hA2' := Lib.hid hA2
      have hB2' := Lib.hid hB2
      clear hA2 hX2 hB2 hb2
      go_wp2
      go_roundw
      case rel =>
        exact ⟨k + 1, ms + D, b1, b2, hNg.out, by go_num, by go_num, Lib.hid hd'.out.1.symm, Lib.hid hd'.out.2.symm, put2 hA2'.out, (hB2'.out.setCell (by simp) _).setCell (by simp) _⟩
      case measure => simp [intOf]; omega
    · obtain rfl : k = N := by omega
      have he : bs.take k = bs := by rw [← hN'.out, List.take_length]
      rw [he] at hms
      go_wp2
      go_ret
      exact ⟨Route.ret_int hms.out, by first | exact hbw | (rw [hq]; exact hbw)⟩

end Go.Proofs.YthjdacbgcpldjaaDoor.Ins

/-
  Drawn regions with an append to a row of the call's own: blocks of other types stay; the row, by what has come up. No program's walk here.
-/
namespace Go.Proofs.YthjdacbgcpldjaaDoor.Ins
open Go.RowKit Go.Sort Go.Proofs.YthjdacbgcpldjaaDoor.Mem Go.Proofs.YthjdacbgcpldjaaDoor.Route
set_option linter.unusedVariables false

theorem mark_ne {done : Nat → Bool} {k i : Nat} (h : i ≠ k) : Sched.mark done k i = done i := by simp [Sched.mark, h]
theorem mark_eq {done : Nat → Bool} {k : Nat} : Sched.mark done k k = true := by simp [Sched.mark]
theorem upd_ne {ys : Nat → Value} {k i : Nat} {v : Value} (h : i ≠ k) : Sched.upd ys k v i = ys i := by simp [Sched.upd, h]
theorem upd_eq {ys : Nat → Value} {k : Nat} {v : Value} : Sched.upd ys k v k = v := by simp [Sched.upd]

/-- Blocks below B, and all that are of another type than T, stay. -/
def Kp (B : Nat) (T : TypeId) (w w' : World) : Prop := Below B w w' ∧ ∀ (b : Nat) (cs : Array Value) (t : TypeId) (f : Nat × Nat), w.heap[b]? = some (.cells cs t f) → t ≠ T → w'.heap[b]? = some (.cells cs t f)
theorem Kp.trans {B : Nat} {T : TypeId} {a b c : World} (h : Kp B T a b) (k : Kp B T b c) : Kp B T a c := ⟨h.1.trans k.1, fun i cs t f hi ht => k.2 i cs t f (h.2 i cs t f hi ht) ht⟩
theorem Kp.new {B : Nat} {T : TypeId} {a b : World} (h : Below a.heap.size a b) (hB : B ≤ a.heap.size) : Kp B T a b :=
  ⟨h.mono hB, fun i cs t f hi _ => (h.block i (Array.getElem?_eq_some_iff.1 hi).1).trans hi⟩
theorem Kp.at_ {B : Nat} {T : TypeId} {a b : World} {g : Nat} {t : TypeId} {cs : Array Value} (h : Kp B T a b) (hA : At a g t cs) (ht : t ≠ T) : At b g t cs := h.2 g cs t _ hA ht
theorem Kp.owns {B base : Nat} {T : TypeId} {a b : World} {e : TypeId} {size n : Nat} {v : Value} {xs : List Value} (h : Kp B T a b) (ho : a.ownsRow base e size v n xs) (ht : e ≠ T) : b.ownsRow base e size v n xs := by
  obtain ⟨hl, h1 | ⟨g, cap, cur, rfl, hg1, hg, hr⟩⟩ := ho
  · exact ⟨hl, .inl h1⟩
  · exact ⟨hl, .inr ⟨g, cap, cur, rfl, hg1, h.2 g cur e _ hg ht, hr⟩⟩
theorem Kp.size {B : Nat} {T : TypeId} {a b : World} (h : Kp B T a b) : a.heap.size ≤ b.heap.size := h.1.size
theorem Kp.grown {B base n m : Nat} {T : TypeId} {a b : World} {v : Value} {xs : List Value} (ho : a.ownsRow base T m v n xs) (hb : B ≤ base) (hg : a.grownBy b v.ownBlock) (hB : B ≤ a.heap.size) : Kp B T a b := by
  refine ⟨(Below.refl _ _).grown hg hB (fun r e => by have := owns_row ho r e; omega), fun i cs t f hi ht => ?_⟩
  refine (hg.block i (Array.getElem?_eq_some_iff.1 hi).1 (fun e => ?_)).trans hi
  rcases ho.2 with ⟨h1, h0⟩ | ⟨k, cap, cur, h1, hk, hk2, _⟩
  · rw [h1] at e; cases e
  · rw [h1] at e
    simp only [Value.ownBlock, Option.some.injEq] at e
    subst e
    rw [hi] at hk2
    cases hk2
    exact ht rfl

inductive KnT (B : Nat) (T : TypeId) where
  | val (u : Value)
  | of (p : Value → World → Prop) (hp : ∀ {v w w'}, p v w → Kp B T w w' → p v w')
  | any
def KnT.holds {B : Nat} {T : TypeId} : KnT B T → Value → World → Prop
  | .val u, v, _ => v = u
  | .of p _, v, w => p v w
  | .any, _, _ => True
def VT {B : Nat} {T : TypeId} (ks : List (KnT B T)) (i : Nat) (v : Value) (w : World) : Prop := ∀ k, ks[i]? = some k → k.holds v w
section
variable {B : Nat} {T : TypeId} {ks : List (KnT B T)} {i : Nat} {v u : Value} {w w' : World} {p : Value → World → Prop} {hp : ∀ {v w w'}, p v w → Kp B T w w' → p v w'}
theorem VT.keep (h : VT ks i v w) (hb : Kp B T w w') : VT ks i v w' := fun k hk => by
  have h1 := h k hk
  cases k with
  | val u => exact h1
  | of p hp => exact hp h1 hb
  | any => trivial
theorem VT.val (h : ks[i]? = some (.val u)) (e : v = u) : VT ks i v w := fun k hk => by rw [h] at hk; cases hk; exact e
theorem VT.of (h : ks[i]? = some (.of p hp)) (e : p v w) : VT ks i v w := fun k hk => by rw [h] at hk; cases hk; exact e
theorem VT.any (h : ks[i]? = some .any) : VT ks i v w := fun k hk => by rw [h] at hk; cases hk; trivial
theorem VT.eq (hV : VT ks i v w) (h : ks[i]? = some (.val u)) : v = u := hV _ h
theorem VT.get (hV : VT ks i v w) (h : ks[i]? = some (.of p hp)) : p v w := hV _ h
end

/-- A row U of the call's own to which operation s adds what operation a lays. -/
structure ZA (a s base N m : Nat) (T : TypeId) (cs : Array Value) (xs zs : List Value) (U : Value) (done : Nat → Bool) (ys : Nat → Value) (W : World) : Prop where
  r : done s = false → W.ownsRow base T m U N xs
  n : done a = true → done s = false → ∃ g : Nat, ys a = .slice (some ⟨g, 0, none⟩) 1 1 ∧ base ≤ g ∧ At W g T cs
  s : done s = true → W.ownsRow base T m (ys s) (N + 1) zs
section
variable {a s base N m : Nat} {T : TypeId} {cs : Array Value} {xs zs : List Value} {U : Value} {done : Nat → Bool} {ys : Nat → Value} {W W' : World} {v : Value}
theorem ZA.start (h : W.ownsRow base T m U N xs) : ZA a s base N m T cs xs zs U (fun _ => false) ys W.drew := ⟨fun _ => owns_below h (Below.refl _ _).drew, fun h => (by cases h), fun h => (by cases h)⟩
theorem ZA.light {k : Nat} (h : ZA a s base N m T cs xs zs U done ys W) (ha : a ≠ k) (hs : s ≠ k) (hb : Below W.heap.size W W') : ZA a s base N m T cs xs zs U (Sched.mark done k) (Sched.upd ys k v) W' := by
  refine ⟨?_, ?_, ?_⟩
  · rw [mark_ne hs]; exact fun h1 => owns_below (h.r h1) hb
  · rw [mark_ne hs, mark_ne ha, upd_ne ha]
    intro h1 h2
    obtain ⟨g, e, hg, hA⟩ := h.n h1 h2
    exact ⟨g, e, hg, hA.keep hb hA.inside⟩
  · rw [mark_ne hs, upd_ne hs]; exact fun h1 => owns_below (h.s h1) hb
theorem ZA.lay {g : Nat} (h : ZA a s base N m T cs xs zs U done ys W) (has : a ≠ s) (hb : Below W.heap.size W W') (hg : base ≤ g) (hA : At W' g T cs) : ZA a s base N m T cs xs zs U (Sched.mark done a) (Sched.upd ys a (.slice (some ⟨g, 0, none⟩) 1 1)) W' := by
  refine ⟨?_, ?_, ?_⟩
  · rw [mark_ne (Ne.symm has)]; exact fun h1 => owns_below (h.r h1) hb
  · rw [upd_eq]; exact fun _ _ => ⟨g, rfl, hg, hA⟩
  · rw [mark_ne (Ne.symm has), upd_ne (Ne.symm has)]; exact fun h1 => owns_below (h.s h1) hb
theorem ZA.put (h : ZA a s base N m T cs xs zs U done ys W) (hn : W'.ownsRow base T m v (N + 1) zs) : ZA a s base N m T cs xs zs U (Sched.mark done s) (Sched.upd ys s v) W' := by
  refine ⟨?_, ?_, ?_⟩
  · rw [mark_eq]; exact fun h1 => by cases h1
  · rw [mark_eq]; exact fun _ h1 => by cases h1
  · rw [upd_eq]; exact fun _ => hn
end
end Go.Proofs.YthjdacbgcpldjaaDoor.Ins

/-
  The contract of package insert's wayOf.
-/
namespace Go.Proofs.YthjdacbgcpldjaaDoor.Ins
open Go.RowKit Go.Sort Go.Proofs.YthjdacbgcpldjaaDoor.Mem Go.Proofs.YthjdacbgcpldjaaDoor.Route Go.Proofs.YthjdacbgcpldjaaDoor.When Go.Proofs.YthjdacbgcpldjaaDoor.Load
set_option linter.unusedVariables false

set_option maxRecDepth 100000 in
set_option maxHeartbeats 4000000 in
theorem wayOf_any (v : Vh) (vl vt : Value) (l : List (Int × Int)) (t : List Rq) (hl : l.length ≤ 900) (w : World) (hL : Row w.heap.size w vl l) (hT : Rqs w.heap.size w vt t) :
    Calls Tryd.prog 40 #[.agg #[.int .i64 v.hx, .int .i64 v.hy, .int .i64 v.cp, .int .i64 v.st, .int .i64 v.en], vl, vt] w fun e w' => e = .returned (.int .i64 (wayO v l t)) ∧ Below w.heap.size w w' := by
  obtain ⟨i0, hi, hz0, hz1, hz2⟩ := info_parts info_place
  obtain ⟨xl, N, capl, rfl, hN', hl0, hlc1, hlc2⟩ := hL.opened
  obtain ⟨xt, Nt, capt, rfl, hNt0, htc1, htc2, ht0⟩ := hT.opened
  obtain ⟨q, hq⟩ : ∃ q, w.heap.size = q := ⟨_, rfl⟩
  obtain ⟨w0, hw0⟩ : ∃ w0, w.alloc (.cells #[.int .i64 v.hx, .int .i64 v.hy, .int .i64 v.cp, .int .i64 v.st, .int .i64 v.en] 28) = w0 := ⟨_, rfl⟩
  have hB0 : Below q w w0 := by rw [← hw0]; exact (Below.refl _ _).alloc (by omega) _
  have hP : At w0 q 28 #[.int .i64 v.hx, .int .i64 v.hy, .int .i64 v.cp, .int .i64 v.st, .int .i64 v.en] := by rw [← hw0]; exact At.new_ _ _ _ hq.symm
  rw [hq] at hL hT
  have hL' := Lib.hid hL
  have hT' := Lib.hid hT
  rw [hN'.out] at hl
  have hq' := Lib.hid hq
  unfold maxLen at hlc2
  clear hL hT hl0 hNt0 ht0 htc1 htc2 hq
  go_enter Tryd.func40, Tryd.ntmps40
  go_wp2
  try simp only [hq'.out]
  clear hw0
  go_loopw [7, 14] (fun u i wr => ∃ k : Nat, k ≤ N ∧ i = .int .i64 k ∧ wr.ownsRow (q + 1) 26 2 u k (flatS ((spotsL t l).take k)) ∧ At wr q 28 #[.int .i64 v.hx, .int .i64 v.hy, .int .i64 v.cp, .int .i64 v.st, .int .i64 v.en] ∧ Below q w wr)
    (fun _ i _ => N - (intOf i).toNat)
  case atStart => exact ⟨0, Nat.zero_le _, rfl, by simpa [flatS] using World.ownsRow_nil _ _ _ _, hP, hB0⟩
  case round =>
    obtain ⟨k, hk, rfl, hown, hV, hbw⟩ := hrel
    have hVi := hV.inside
    by_cases hlt : k < N
    · obtain ⟨⟨s1, s2⟩, hs⟩ : ∃ s, l[k]? = some s := ⟨l[k]'(by rw [hN'.out]; exact hlt), List.getElem?_eq_getElem _⟩
      obtain ⟨g, o, rfl, hg, e1, e2⟩ := Row.stop (hL'.out.keep hbw (Nat.le_refl _)) hs
      have hsn : Hid (flatS ((spotsL t l).take (k + 1)) = flatS ((spotsL t l).take k) ++ [.int .i64 (visV t (s1, s2)).px, .int .i64 (visV t (s1, s2)).py]) := Lib.hid (by rw [List.take_add_one, spotsL_get hs]; exact flatS_snoc _ _)
      have hNg : Hid (k + 1 ≤ N) := Lib.hid hlt
      obtain ⟨w1, hw1⟩ : ∃ w1, wr.alloc (.cells #[.int .i64 s1, .int .i64 s2] 66) = w1 := ⟨_, rfl⟩
      have hX : At w1 wr.heap.size 66 #[.int .i64 s1, .int .i64 s2] := by rw [← hw1]; exact At.new _ _ _
      have hB1 : Below q w w1 := by rw [← hw1]; exact hbw.alloc (by omega) _
      have ho1 := hown.alloc (.cells #[.int .i64 s1, .int .i64 s2] 66)
      rw [hw1] at ho1
      have hV1 : At w1 q 28 #[.int .i64 v.hx, .int .i64 v.hy, .int .i64 v.cp, .int .i64 v.st, .int .i64 v.en] := by rw [← hw1]; exact hV.alloc _
      have hqw : q ≤ w1.heap.size := by have h9 := hB1.size; have h8 := hq'.out; omega
      have hcall := Place_any s1 s2 _ t w1 ((hT'.out.keep hB1 (Nat.le_refl _)).more hqw)
      generalize visV t (s1, s2) = x at *
      generalize visB t (s1, s2) = bb at *
      simp at e1 e2
      have x0 := hX.cell 0
      have x1 := hX.cell 1
      simp at x0 x1
      have hxs := hX.inside
      have hB1' := Lib.hid hB1
      have hqw' := Lib.hid hqw
      have hw1' := Lib.hid hw1
      clear hs hX hB1 hbw hV hown hw1
      go_wp2_with fail
      try simp only [hw1'.out]
      refine hcall.mono ?_
      clear hcall x0 x1 e1 e2 hw1'
      rintro e w2 ⟨rfl, hb2⟩
      have ho2 := owns_below ho1 hb2
      have hV2 := Lib.hid (hV1.keep hb2 hV1.inside)
      have hB2 := hB1'.out.trans (hb2.mono hqw'.out)
      have hq2 : q + 1 ≤ w2.heap.size := hV2.out.inside
      have hrow := Lib.hid (owns_row ho2)
      clear hb2 ho1 hV1
      go_wp2_with (at_builtin; refine wpList_append_own _ rfl _ _ 130 rfl (q + 1) 26 i0 (.agg #[.int .i64 0, .int .i64 0]) 2 16 Tryd.underlying130 hi hz0 hz1 hz2 rfl (by decide) _ _ _ rfl ((ho2.alloc _).alloc _) ⟨w2.heap.size + 1, 0, none⟩ 1 1 [.int .i64 x.px, .int .i64 x.py] rfl rfl (World.news_of_block (cs := #[.int .i64 x.px, .int .i64 x.py]) (t := 26) (fr := (0, 0)) (by simpa using heap_alloc_new (w2.alloc _) _)) (by simp [Value.oneCell']) (by unfold maxLen; omega) (by omega) (by simp; omega) ?_; intro v7 w7 hown7 hgrow7 hnil7)
      have hb7 : Below q w w7 := ((hB2.alloc (by omega) _).alloc (by simp; omega) _).grown hgrow7 (by simp; omega) (fun r e => by have := hrow.out r e; omega)
      have hV7 : At w7 q 28 #[.int .i64 v.hx, .int .i64 v.hy, .int .i64 v.cp, .int .i64 v.st, .int .i64 v.en] := At.under (m := q + 1) ((hV2.out.alloc _).alloc _) hgrow7 (fun r e => hrow.out r e) (Nat.lt_succ_self _)
      go_roundw
      case rel => exact ⟨k + 1, hNg.out, by go_num, by rw [hsn.out]; exact hown7, hV7, hb7⟩
      case measure => simp [intOf]; omega
    · obtain rfl : k = N := by omega
      have he : (spotsL t l).take k = spotsL t l := by rw [← hN'.out, ← spotsL_length t l, List.take_length]
      rw [he] at hown
      clear he
      obtain ⟨x7, c7, rfl, _, _⟩ := owns_slice hown
      have hrow := Lib.hid (owns_row hown)
      have hbw' := Lib.hid hbw
      have hsp : Hid ((spotsL t l).length = k) := Lib.hid (by rw [spotsL_length]; exact hN'.out)
      clear hbw
      go_upto_region 8 with fail
      refine Sched.wp_region_sched 7 (Kp (q + 1) 26) (VT (B := q + 1) (T := 26) [.val (.pointer (some ⟨q, 0, none⟩)), .val (.agg #[.int .i64 v.hx, .int .i64 v.hy]), .val (.slice x7 k c7), .val (.pointer (some ⟨q, 0, none⟩)), .val (.agg #[.int .i64 v.hx, .int .i64 v.hy]), .any, .any]) (ZA 5 6 (q + 1) k 2 26 #[.int .i64 v.hx, .int .i64 v.hy] (flatS (spotsL t l)) (flatS (spotsL t l) ++ [.int .i64 v.hx, .int .i64 v.hy]) (.slice x7 k c7)) (by kernel_rfl) (by kernel_rfl) (by kernel_rfl) (fun h1 h2 => h1.trans h2) (fun h1 h2 => VT.keep h1 h2) (Kp.new (Below.refl _ _).drew (by omega)) (fun ys => ZA.start hown) (Sched.StepsA.steps (by kernel_rfl) ?hS8) ?hQ8
      case hS8 =>
       simp only [List.take_succ_cons, List.take_zero]
       refine ⟨?_, ?_, ?_, ?_, ?_, ?_, ?_, trivial⟩
       · intro ys done W aa hE hn hF hD hZ hG hO
         replace hE : Kp (q + 1) 26 wr W := hE
         have hsz := hE.size
         have o3 := hO 3 (by kernel_rfl)
         replace o3 : aa.tmps[3]? = some (.pointer (some ⟨q, 0, none⟩)) := o3
         go_wp2_with fail
         exact ⟨_, rfl, Kp.new (Below.refl _ _) (by omega), VT.val rfl rfl, hZ.light (by decide) (by decide) (Below.refl _ _)⟩
       · intro ys done W aa hE hn hF hD hZ hG hO
         replace hE : Kp (q + 1) 26 wr W := hE
         have hsz := hE.size
         have v0 := (hF 0 (by decide) (hD 0 (by kernel_rfl))).eq rfl
         have g0 := hG 0 29 rfl (Nat.le_of_ble_eq_true rfl)
         rw [v0] at g0
         have hAt := hE.at_ hV (by decide)
         have p0 := hAt.cell 0
         have p1 := hAt.cell 1
         simp at p0 p1
         have hAi := hAt.inside
         clear hAt
         go_wp2_with fail
         exact ⟨_, rfl, Kp.new (Below.refl _ _) (by omega), VT.val rfl rfl, hZ.light (by decide) (by decide) (Below.refl _ _)⟩
       · intro ys done W aa hE hn hF hD hZ hG hO
         replace hE : Kp (q + 1) 26 wr W := hE
         have hsz := hE.size
         have o7 := hO 7 (by kernel_rfl)
         replace o7 : aa.tmps[7]? = some (.slice x7 k c7) := o7
         go_wp2_with fail
         exact ⟨_, rfl, Kp.new (Below.refl _ _) (by omega), VT.val rfl rfl, hZ.light (by decide) (by decide) (Below.refl _ _)⟩
       · intro ys done W aa hE hn hF hD hZ hG hO
         replace hE : Kp (q + 1) 26 wr W := hE
         have hsz := hE.size
         have o3 := hO 3 (by kernel_rfl)
         replace o3 : aa.tmps[3]? = some (.pointer (some ⟨q, 0, none⟩)) := o3
         go_wp2_with fail
         exact ⟨_, rfl, Kp.new (Below.refl _ _) (by omega), VT.val rfl rfl, hZ.light (by decide) (by decide) (Below.refl _ _)⟩
       · intro ys done W aa hE hn hF hD hZ hG hO
         replace hE : Kp (q + 1) 26 wr W := hE
         have hsz := hE.size
         have v3 := (hF 3 (by decide) (hD 3 (by kernel_rfl))).eq rfl
         have g3 := hG 3 32 rfl (Nat.le_of_ble_eq_true rfl)
         rw [v3] at g3
         have hAt := hE.at_ hV (by decide)
         have p0 := hAt.cell 0
         have p1 := hAt.cell 1
         simp at p0 p1
         have hAi := hAt.inside
         clear hAt
         go_wp2_with fail
         exact ⟨_, rfl, Kp.new (Below.refl _ _) (by omega), VT.val rfl rfl, hZ.light (by decide) (by decide) (Below.refl _ _)⟩
       · intro ys done W aa hE hn hF hD hZ hG hO
         replace hE : Kp (q + 1) 26 wr W := hE
         have hsz := hE.size
         have v4 := (hF 4 (by decide) (hD 4 (by kernel_rfl))).eq rfl
         have g4 := hG 4 33 rfl (Nat.le_of_ble_eq_true rfl)
         rw [v4] at g4
         go_wp2_with fail
         exact ⟨_, rfl, Kp.new ((Below.refl _ _).alloc (Nat.le_refl _) _) (by omega), VT.any rfl, hZ.lay (by decide) ((Below.refl _ _).alloc (Nat.le_refl _) _) (by omega) (At.new _ _ _)⟩
       · intro ys done W aa hE hn hF hD hZ hG hO
         replace hE : Kp (q + 1) 26 wr W := hE
         have hsz := hE.size
         have v2 := (hF 2 (by decide) (hD 2 (by kernel_rfl))).eq rfl
         have g2 := hG 2 31 rfl (Nat.le_of_ble_eq_true rfl)
         rw [v2] at g2
         have h6 : done 6 = false := hn
         have hr := hZ.r h6
         obtain ⟨gn, hgn, hgM, hAn⟩ := hZ.n (hD 5 (by kernel_rfl)) h6
         have g5 := hG 5 34 rfl (Nat.le_of_ble_eq_true rfl)
         rw [hgn] at g5
         have hZ' := Lib.hid hZ
         clear hZ
         refine wpList_append_own _ rfl (.tmp 31) (.tmp 34) 130 rfl (q + 1) 26 i0 (.agg #[.int .i64 0, .int .i64 0]) 2 16 Tryd.underlying130 hi hz0 hz1 hz2 rfl (by decide) (.slice x7 k c7) k (flatS (spotsL t l)) (show aa.tmps.getD 31 undef = _ by simp [g2]) hr ⟨gn, 0, none⟩ 1 1 [.int .i64 v.hx, .int .i64 v.hy] (show aa.tmps.getD 34 undef = _ by simp [g5]) rfl (World.news_of_block (cs := #[.int .i64 v.hx, .int .i64 v.hy]) (t := 26) (fr := (0, 0)) hAn) (by simp [Value.oneCell']) (by unfold maxLen; omega) (by omega) (by omega) ?_
         intro v9 w9 hown9 hgrow9 hnil9
         have hkp := Lib.hid (Kp.grown hr (by omega : q + 1 ≤ q + 1) hgrow9 (by omega))
         have hrow9 := Lib.hid hown9
         clear hown9 hgrow9 hnil9
         go_wp2_with fail
         exact ⟨_, rfl, hkp.out, VT.any rfl, hZ'.out.put hrow9.out⟩
      case hQ8 =>
       intro ys w9 hE hF hZ
       obtain ⟨done, hd, hZ⟩ := hZ
       replace hE : Kp (q + 1) 26 wr w9 := hE
       have v1 := (hF 1 (by decide)).eq rfl
       have hr9 := hZ.s (hd 6 (by decide))
       obtain ⟨x9, c9, e9, h91, h92⟩ := owns_slice hr9
       rw [e9] at hr9
       have hR9 := Row.of_owns (l := spotsL t l ++ [(v.hx, v.hy)]) (by rw [flatS_snoc]; exact hr9) (by rw [List.length_append, hsp.out]; rfl) (Nat.le_refl _)
       have hw9 := way_any v.hx v.hy _ _ (by rw [List.length_append, hsp.out]; simp; omega) w9 hR9
       have hB9 := Lib.hid (hbw'.out.trans (hE.1.mono (by omega)))
       simp only [List.take_succ_cons, List.take_zero, List.drop_succ_cons, List.drop_zero, Sched.fill, e9, v1]
       clear hF hE hZ hr9 hR9 hd e9 v1 hown hV
       go_simp
       go_wp2_with fail
       refine hw9.mono ?_
       clear hw9
       rintro e w10 ⟨rfl, hb10⟩
       have hB10 := Lib.hid (hB9.out.trans (hb10.mono (by have := hB9.out.size; have := hq'.out; omega)))
       clear hb10
       go_wp2
       go_ret
       exact ⟨Route.ret_int rfl, by first | exact hB10.out | (rw [hq'.out]; exact hB10.out)⟩

end Go.Proofs.YthjdacbgcpldjaaDoor.Ins

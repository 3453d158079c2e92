import Derived.Test.YteclpblfleakhaaGreatDoorPkLoadMath

namespace Go.Proofs.YteclpblfleakhaaGreatDoor.Ins
open Go.RowKit Go.Sort Go.Proofs.YteclpblfleakhaaGreatDoor.Mem Go.Proofs.YteclpblfleakhaaGreatDoor.Route
set_option linter.unusedVariables false
theorem mark_ne {done : Nat → Bool} {k i : Nat} (h : i ≠ k) : Sched.mark done k i = done i := by simp [Sched.mark, h]
theorem mark_eq {done : Nat → Bool} {k : Nat} : Sched.mark done k k = true := by simp [Sched.mark]
theorem upd_ne {ys : Nat → Value} {k i : Nat} {v : Value} (h : i ≠ k) : Sched.upd ys k v i = ys i := by simp [Sched.upd, h]
theorem upd_eq {ys : Nat → Value} {k : Nat} {v : Value} : Sched.upd ys k v k = v := by simp [Sched.upd]
def Kp (B : Nat) (T : TypeId) (w w' : World) : Prop := Below B w w' ∧ ∀ (b : Nat) (cs : Array Value) (t : TypeId) (f : Nat × Nat), w.heap[b]? = some (.cells cs t f) → t ≠ T → w'.heap[b]? = some (.cells cs t f)
theorem Kp.trans {B : Nat} {T : TypeId} {a b c : World} (h : Kp B T a b) (k : Kp B T b c) : Kp B T a c := ⟨h.1.trans k.1, fun i cs t f hi ht => k.2 i cs t f (h.2 i cs t f hi ht) ht⟩
theorem Kp.new {B : Nat} {T : TypeId} {a b : World} (h : Below a.heap.size a b) (hB : B ≤ a.heap.size) : Kp B T a b :=
 ⟨h.mono hB, fun i cs t f hi _ => (h.block i (Array.getElem?_eq_some_iff.1 hi).1).trans hi⟩
theorem Kp.at_ {B : Nat} {T : TypeId} {a b : World} {g : Nat} {t : TypeId} {cs : Array Value} (h : Kp B T a b) (hA : At a g t cs) (ht : t ≠ T) : At b g t cs := h.2 g cs t _ hA ht
theorem Kp.owns {B base : Nat} {T : TypeId} {a b : World} {e : TypeId} {size n : Nat} {v : Value} {xs : List Value} (h : Kp B T a b) (ho : a.ownsRow base e size v n xs) (ht : e ≠ T) : b.ownsRow base e size v n xs := by
 obtain ⟨hl, h1 | ⟨g, cap, cur, rfl, hg1, hg, hr⟩⟩ := ho
 · exact ⟨hl, .inl h1⟩
 · exact ⟨hl, .inr ⟨g, cap, cur, rfl, hg1, h.2 g cur e _ hg ht, hr⟩⟩
theorem Kp.size {B : Nat} {T : TypeId} {a b : World} (h : Kp B T a b) : a.heap.size ≤ b.heap.size := h.1.size
theorem Kp.grown {B base n m : Nat} {T : TypeId} {a b : World} {v : Value} {xs : List Value} (ho : a.ownsRow base T m v n xs) (hb : B ≤ base) (hg : a.grownBy b v.ownBlock) (hB : B ≤ a.heap.size) : Kp B T a b := by
 refine ⟨(Below.refl _ _).grown hg hB (fun r e => by have := owns_row ho r e; omega), fun i cs t f hi ht => ?_⟩
 refine (hg.block i (Array.getElem?_eq_some_iff.1 hi).1 (fun e => ?_)).trans hi
 rcases ho.2 with ⟨h1, h0⟩ | ⟨k, cap, cur, h1, hk, hk2, _⟩
 · rw [h1] at e; cases e
 · rw [h1] at e
   simp only [Value.ownBlock, Option.some.injEq] at e
   subst e
   rw [hi] at hk2
   cases hk2
   exact ht rfl
inductive KnT (B : Nat) (T : TypeId) where
 | val (u : Value)
 | of (p : Value → World → Prop) (hp : ∀ {v w w'}, p v w → Kp B T w w' → p v w')
 | any
def KnT.holds {B : Nat} {T : TypeId} : KnT B T → Value → World → Prop
 | .val u, v, _ => v = u
 | .of p _, v, w => p v w
 | .any, _, _ => True
def VT {B : Nat} {T : TypeId} (ks : List (KnT B T)) (i : Nat) (v : Value) (w : World) : Prop := ∀ k, ks[i]? = some k → k.holds v w
section
variable {B : Nat} {T : TypeId} {ks : List (KnT B T)} {i : Nat} {v u : Value} {w w' : World} {p : Value → World → Prop} {hp : ∀ {v w w'}, p v w → Kp B T w w' → p v w'}
theorem VT.keep (h : VT ks i v w) (hb : Kp B T w w') : VT ks i v w' := fun k hk => by
 have h1 := h k hk
 cases k with
 | val u => exact h1
 | of p hp => exact hp h1 hb
 | any => trivial
theorem VT.val (h : ks[i]? = some (.val u)) (e : v = u) : VT ks i v w := fun k hk => by rw [h] at hk; cases hk; exact e
theorem VT.of (h : ks[i]? = some (.of p hp)) (e : p v w) : VT ks i v w := fun k hk => by rw [h] at hk; cases hk; exact e
theorem VT.any (h : ks[i]? = some .any) : VT ks i v w := fun k hk => by rw [h] at hk; cases hk; trivial
theorem VT.eq (hV : VT ks i v w) (h : ks[i]? = some (.val u)) : v = u := hV _ h
theorem VT.get (hV : VT ks i v w) (h : ks[i]? = some (.of p hp)) : p v w := hV _ h
end
structure ZA (a s base N m : Nat) (T : TypeId) (cs : Array Value) (xs zs : List Value) (U : Value) (done : Nat → Bool) (ys : Nat → Value) (W : World) : Prop where
 r : done s = false → W.ownsRow base T m U N xs
 n : done a = true → done s = false → ∃ g : Nat, ys a = .slice (some ⟨g, 0, none⟩) 1 1 ∧ base ≤ g ∧ At W g T cs
 s : done s = true → W.ownsRow base T m (ys s) (N + 1) zs
section
variable {a s base N m : Nat} {T : TypeId} {cs : Array Value} {xs zs : List Value} {U : Value} {done : Nat → Bool} {ys : Nat → Value} {W W' : World} {v : Value}
theorem ZA.start (h : W.ownsRow base T m U N xs) : ZA a s base N m T cs xs zs U (fun _ => false) ys W.drew := ⟨fun _ => owns_below h (Below.refl _ _).drew, fun h => (by cases h), fun h => (by cases h)⟩
theorem ZA.light {k : Nat} (h : ZA a s base N m T cs xs zs U done ys W) (ha : a ≠ k) (hs : s ≠ k) (hb : Below W.heap.size W W') : ZA a s base N m T cs xs zs U (Sched.mark done k) (Sched.upd ys k v) W' := by
 refine ⟨?_, ?_, ?_⟩
 · rw [mark_ne hs]; exact fun h1 => owns_below (h.r h1) hb
 · rw [mark_ne hs, mark_ne ha, upd_ne ha]
   intro h1 h2
   obtain ⟨g, e, hg, hA⟩ := h.n h1 h2
   exact ⟨g, e, hg, hA.keep hb hA.inside⟩
 · rw [mark_ne hs, upd_ne hs]; exact fun h1 => owns_below (h.s h1) hb
theorem ZA.lay {g : Nat} (h : ZA a s base N m T cs xs zs U done ys W) (has : a ≠ s) (hb : Below W.heap.size W W') (hg : base ≤ g) (hA : At W' g T cs) : ZA a s base N m T cs xs zs U (Sched.mark done a) (Sched.upd ys a (.slice (some ⟨g, 0, none⟩) 1 1)) W' := by
 refine ⟨?_, ?_, ?_⟩
 · rw [mark_ne (Ne.symm has)]; exact fun h1 => owns_below (h.r h1) hb
 · rw [upd_eq]; exact fun _ _ => ⟨g, rfl, hg, hA⟩
 · rw [mark_ne (Ne.symm has), upd_ne (Ne.symm has)]; exact fun h1 => owns_below (h.s h1) hb
theorem ZA.put (h : ZA a s base N m T cs xs zs U done ys W) (hn : W'.ownsRow base T m v (N + 1) zs) : ZA a s base N m T cs xs zs U (Sched.mark done s) (Sched.upd ys s v) W' := by
 refine ⟨?_, ?_, ?_⟩
 · rw [mark_eq]; exact fun h1 => by cases h1
 · rw [mark_eq]; exact fun _ h1 => by cases h1
 · rw [upd_eq]; exact fun _ => hn
end
end Go.Proofs.YteclpblfleakhaaGreatDoor.Ins
namespace Go.Proofs.YteclpblfleakhaaGreatDoor.Load
open Go.RowKit Go.Shelf Go.Proofs.YteclpblfleakhaaGreatDoor.Mem Go.Proofs.YteclpblfleakhaaGreatDoor.Route Go.Proofs.YteclpblfleakhaaGreatDoor.When Go.Proofs.YteclpblfleakhaaGreatDoor.Up
set_option linter.unusedVariables false
attribute [local go_sem] Oper.semAt_some
def SgL (w : World) : Prop := w.cell? ⟨2, 0, none⟩ = some (.int .i64 1) ∧ w.cell? ⟨2, 1, none⟩ = some (.int .i64 (-1))
theorem SgL.pos {w : World} (h : SgL w) : 2 < w.heap.size := by
 obtain ⟨h, _⟩ := h
 rcases Nat.lt_or_ge 2 w.heap.size with h0 | h0
 · exact h0
 · simp [World.cell?, Array.getElem?_eq_none h0] at h
theorem SgL.keep {B : Nat} {w v : World} (h : SgL w) (hb : Below B w v) (hB : 2 < B) : SgL v := ⟨(hb.cell (p := ⟨2, 0, none⟩) hB).trans h.1, (hb.cell (p := ⟨2, 1, none⟩) hB).trans h.2⟩
def SgN (w : World) : Prop := w.cell? ⟨1, 0, none⟩ = some (.int .i64 (-1)) ∧ w.cell? ⟨1, 1, none⟩ = some (.int .i64 (-1)) ∧ w.cell? ⟨1, 2, none⟩ = some (.int .i64 9223372036854775807)
theorem SgN.pos {w : World} (h : SgN w) : 1 < w.heap.size := by
 obtain ⟨h, _⟩ := h
 rcases Nat.lt_or_ge 1 w.heap.size with h0 | h0
 · exact h0
 · simp [World.cell?, Array.getElem?_eq_none h0] at h
theorem SgN.keep {B : Nat} {w v : World} (h : SgN w) (hb : Below B w v) (hB : 1 < B) : SgN v := ⟨(hb.cell (p := ⟨1, 0, none⟩) hB).trans h.1, (hb.cell (p := ⟨1, 1, none⟩) hB).trans h.2.1, (hb.cell (p := ⟨1, 2, none⟩) hB).trans h.2.2⟩
def Sg (w : World) : Prop := SgL w ∧ SgN w
theorem Sg.signs {w : World} (h : Sg w) : SgL w := h.1
theorem Sg.none {w : World} (h : Sg w) : SgN w := h.2
theorem Sg.pos {w : World} (h : Sg w) : 2 < w.heap.size ∧ 1 < w.heap.size := ⟨h.1.pos, h.2.pos⟩
theorem Sg.keep {B : Nat} {w v : World} (h : Sg w) (hb : Below B w v) (hB : 2 < B ∧ 1 < B) : Sg v := ⟨h.1.keep hb hB.1, h.2.keep hb hB.2⟩
theorem Sg.on {w v : World} (h : Sg w) (hb : Below w.heap.size w v) : Sg v := h.keep hb h.pos
def prs (t : List Rq) (l : List (Int × Int)) : List (Int × Int) := (List.range l.length).map fun (k : Nat) => ((k : Int), acc t (l.take (k + 1)))
def encP (y : Int × Int) : Array Value := #[.int .i64 y.1, .int .i64 y.2]
theorem prs_length (t : List Rq) (l : List (Int × Int)) : (prs t l).length = l.length := by simp [prs]
theorem prs_at {t : List Rq} {l : List (Int × Int)} {pre rest : List (Int × Int)} {y : Int × Int} (h : prs t l = pre ++ y :: rest) : pre.length < l.length ∧ y = ((pre.length : Int), acc t (l.take (pre.length + 1))) := by
 have h1 : (prs t l)[pre.length]? = some y := by rw [h]; simp
 have h2 : pre.length < l.length := by
  have := congrArg List.length h
  rw [prs_length] at this
  simp at this
  omega
 unfold prs at h1
 rw [List.getElem?_map, List.getElem?_range h2] at h1
 simp only [Option.map_some, Option.some.injEq] at h1
 exact ⟨h2, h1.symm⟩
theorem prs_snd (t : List Rq) (l : List (Int × Int)) : (prs t l).map (·.2) = prof t l := by simp [prs, prof]
theorem Old.below {β : Type} {B : Nat} {J : β → World → Prop} (h : Old B J) {s : β} {A A' : World} (hs : J s A) (hb : Below A.heap.size A A') : J s A' :=
 h s A A' none hs ⟨hb.os, hb.tape, hb.output, hb.size, fun k hk _ => hb.block k hk⟩ (fun r e => by cases e)
theorem below_drewN {B : Nat} {A V : World} (h : Below B A V) (n : Nat) : Below B A (V.drewN n) := Place.below_drewN h n
theorem onBoard_any (xl xt : Option Addr) (Nl Cl Nt Ct : Nat) (w : World) :
 Calls Tryz.prog 107 #[.slice xl Nl Cl, .slice xt Nt Ct] w fun e w' =>
  e = .returned (.func (.func 119) #[] #[.pointer (some ⟨w.heap.size, 0, none⟩), .pointer (some ⟨w.heap.size + 1, 0, none⟩)]) ∧
  (w.alloc (.cells #[.slice xl Nl Cl] 28)).alloc (.cells #[.slice xt Nt Ct] 37) = w' := by
 go_enter Tryz.func107, Tryz.ntmps107
 go_wp2
 go_ret
 exact ⟨rfl, rfl⟩
structure BrdAt (B0 : Nat) (bl bt : Nat) (vl vt : Value) (l : List (Int × Int)) (t : List Rq) (A : World) : Prop where
 hl : At A bl 28 #[vl]
 ht : At A bt 37 #[vt]
 row : Row B0 A vl l
 rqs : Rqs B0 A vt t
 sg : Sg A
set_option maxRecDepth 100000 in
set_option maxHeartbeats 4000000 in
theorem board_runs (l : List (Int × Int)) (t : List Rq) (htold : toldV l t = 0) (vl vt : Value) (bl bt B0 B : Nat) (hB : B0 ≤ B) (good : Int × Int → Bool) (I : List (Int × Int) → World → Prop) (hI : ∀ p A, I p A → BrdAt B0 bl bt vl vt l t A) :
 Runs2 Tryz.prog 119 #[] #[.pointer (some ⟨bl, 0, none⟩), .pointer (some ⟨bt, 0, none⟩)] encP good (prs t l) B I := by
 intro ll J W hWB h0 hJ hJI hY
 refine callsIn_of_wp Tryz.func119 rfl trivial ?_ rfl
 simp only [Tryz.ntmps119, List.size_toArray, List.length_cons, List.length_nil, Nat.reduceAdd, Nat.reduceSub, Array.replicate_succ, Array.replicate_zero, List.push_toArray, List.append_toArray, List.nil_append, List.cons_append]
 have hV0 := hI _ _ (hJI _ _ h0)
 obtain ⟨xl, Nl, capl, rfl, hNl, hl0, hlc1, hlc2⟩ := hV0.row.opened
 obtain ⟨xt, Nt, capt, rfl, hNt0, htc1, htc2, ht0⟩ := hV0.rqs.opened
 have hNt := Lib.hid hNt0
 unfold maxLen at hlc2 htc2
 have l0 := hV0.hl.cell 0
 have hbl := hV0.hl.inside
 simp at l0
 have hWs : B ≤ W.heap.size := by omega
 have hlen : Hid ((prs t l).length = Nl) := Lib.hid (by rw [prs_length, hNl.out])
 have hbits := Lib.hid (told_bits htold).2.2
 have hbd := Lib.hid (fun (k : Nat) (hk : k ≤ l.length) => acc_bd htold hk)
 have hat := Lib.hid (fun (pre rest : List (Int × Int)) (y : Int × Int) (h : prs t l = pre ++ y :: rest) => prs_at h)
 have hY' := Lib.hid hY
 have hI' := Lib.hid hI
 clear hY hI hV0 hNt0 ht0 htold
 gi_wp2
 gi_loopw [4, 9] (fun u i wr => ∃ (pre : List (Int × Int)) (k : Nat) (rest : List (Int × Int)), i = .int .i64 k ∧ k ≤ Nl ∧ u = .int .i64 (acc t (l.take k)) ∧ pre.length = k ∧ prs t l = pre ++ rest ∧ (∀ y ∈ pre, good y = true) ∧ J pre wr ∧ B ≤ wr.heap.size)
  (fun _ i _ => Nl - (intOf i).toNat)
 case atStart => exact ⟨[], 0, prs t l, rfl, Nat.zero_le _, by simp [acc], rfl, rfl, (fun y hy => by cases hy), h0, hWs⟩
 case round =>
  obtain ⟨pre, k, rest, rfl, hk, rfl, hpk, hx, hg, hj, hs⟩ := hrel
  clear h0
  have hpk' := Lib.hid hpk
  have hx' := Lib.hid hx
  have hg' := Lib.hid hg
  by_cases hlt : k < Nl
  · obtain ⟨y, rest, rfl⟩ : ∃ y r, rest = y :: r := by
     cases rest with
     | nil =>
      exfalso
      have h1 := hlen.out
      rw [hx] at h1
      simp at h1
      omega
     | cons y r => exact ⟨y, r, rfl⟩
    have hy2 := Lib.hid (hat.out _ _ _ hx).2
    rw [hpk] at hy2
    clear hpk hx hg
    obtain ⟨s, hsl⟩ : ∃ s, l[k]? = some s := ⟨l[k]'(by rw [hNl.out]; exact hlt), List.getElem?_eq_getElem _⟩
    obtain ⟨q, hq, hr0, hrN, hld, hkd⟩ := hbits.out s (List.mem_of_getElem? hsl)
    have hstep := Lib.hid (show acc t (l.take (k + 1)) = acc t (l.take k) + sg s.2 * q.ld by rw [Load.take_get hsl, acc_snoc]; unfold stN; rw [ldR_get hq])
    have hb1 := hbd.out k (by rw [hNl.out]; exact hk)
    have hb2 := hbd.out (k + 1) (by rw [hNl.out]; exact hlt)
    rw [hstep.out] at hy2 hb2
    have hVk := hI'.out _ _ (hJI _ _ hj)
    obtain ⟨g, o, rfl, hgB, c0, c1⟩ := Row.stop hVk.row hsl
    have hjV := hJ.new hj (.cells #[.int .i64 s.1, .int .i64 s.2] 82)
    have hVV := hI'.out _ _ (hJI _ _ hjV)
    have t0 := hVV.ht.cell 0
    have hbt := hVk.ht.inside
    simp at t0
    have hss : B ≤ (wr.alloc (.cells #[.int .i64 s.1, .int .i64 s.2] 82)).heap.size := by simp; omega
    obtain ⟨s1, s2⟩ := s
    simp only at hq hr0 hrN hstep hy2 hb2 c0 c1 hkd
    obtain ⟨r, rfl⟩ : ∃ r : Nat, s1 = r := ⟨s1.toNat, by omega⟩
    simp only [Int.toNat_natCast] at hq
    obtain ⟨g2, o2, rfl, _, d0, d1, d2, d3, d4, d5, d6, d7, d8, d9⟩ := Rqs.at hVV.rqs hq
    have hrt : r < Nt := by have := (List.getElem?_eq_some_iff.1 hq).1; rw [hNt.out] at this; exact this
    obtain ⟨z0, z1⟩ := hVV.sg.signs
    have hS := At.new wr 82 #[.int .i64 (r : Int), .int .i64 s2]
    have a0 := hS.cell 0
    have a1 := hS.cell 1
    simp at a0 a1
    have hld1 := hld.1
    have hld2 := hld.2
    clear hVk hVV hsl hq d0 d1 d2 d3 d4 d5 d6 d7 d9 hld hrN hr0 hS
    obtain ⟨A, hA⟩ : ∃ A, acc t (l.take k) = A := ⟨_, rfl⟩
    rw [hA] at hstep hy2 hb1 hb2 ⊢
    clear hA
    obtain ⟨d, hd⟩ : ∃ d, q.ld = d := ⟨_, rfl⟩
    rw [hd] at hstep hy2 hb2 d8 hld1 hld2
    clear hd
    rcases hkd with rfl | rfl
    · simp only [show sg 0 = 1 from rfl, Int.one_mul] at hstep hy2 hb2
      have hb3 := hb1.1; have hb4 := hb1.2; have hb5 := hb2.1; have hb6 := hb2.2
      clear hb1 hb2
      gi_wp2_with fail
      gi_big_quiet_th (fail)
      have hjq := Old.below hJ hjV (below_drewN (Below.refl _ _) nq)
      have hsq : B ≤ ((wr.alloc (.cells #[.int .i64 (r : Int), .int .i64 0] 82)).drewN nq).heap.size := hss
      generalize (wr.alloc (.cells #[.int .i64 (r : Int), .int .i64 0] 82)).drewN nq = w3 at *
      obtain ⟨fn, tmps, assign, body, hyy, hR⟩ := hY'.out 1 pre y w3 ⟨rest, hx'.out⟩ hjq hg'.out hsq
      dsimp only [encP] at hyy
      rw [hy2.out] at hyy
      clear hjV hj hjq c0 c1 t0 hss a0 a1 z0 z1 d8
      gi_wp2_with fail
      refine hR.mono ?_
      clear hR hyy
      rintro e w4 ⟨rfl, hj4, hk4⟩
      have hs4 : B ≤ w4.heap.size := Nat.le_trans hsq hk4
      clear hk4
      cases hgood : good y
      · gi_wp2
        refine bodyPost_ret (results_none rfl _ _ _) rfl ?_
        refine ⟨⟨_, rfl⟩, ?_⟩
        rw [hx'.out, upTo_append hg'.out, upTo_bad hgood]
        exact hj4
      · have hgg := Lib.hid (good_snoc hg'.out hgood)
        clear hgood
        gi_wp2
        go_roundw
        case rel =>
         exact ⟨pre ++ [y], k + 1, rest, by go_num, hlt, by rw [hstep.out], by simp [hpk'.out], by rw [hx'.out]; simp, hgg.out, hj4, hs4⟩
        case measure => simp [intOf]; omega
    · simp only [show sg 1 = -1 from rfl, Int.neg_one_mul] at hstep hy2 hb2
      have hb3 := hb1.1; have hb4 := hb1.2; have hb5 := hb2.1; have hb6 := hb2.2
      clear hb1 hb2
      gi_wp2_with fail
      gi_big_quiet_th (fail)
      have hjq := Old.below hJ hjV (below_drewN (Below.refl _ _) nq)
      have hsq : B ≤ ((wr.alloc (.cells #[.int .i64 (r : Int), .int .i64 1] 82)).drewN nq).heap.size := hss
      generalize (wr.alloc (.cells #[.int .i64 (r : Int), .int .i64 1] 82)).drewN nq = w3 at *
      obtain ⟨fn, tmps, assign, body, hyy, hR⟩ := hY'.out 1 pre y w3 ⟨rest, hx'.out⟩ hjq hg'.out hsq
      dsimp only [encP] at hyy
      rw [hy2.out] at hyy
      clear hjV hj hjq c0 c1 t0 hss a0 a1 z0 z1 d8
      gi_wp2_with fail
      refine hR.mono ?_
      clear hR hyy
      rintro e w4 ⟨rfl, hj4, hk4⟩
      have hs4 : B ≤ w4.heap.size := Nat.le_trans hsq hk4
      clear hk4
      cases hgood : good y
      · gi_wp2
        refine bodyPost_ret (results_none rfl _ _ _) rfl ?_
        refine ⟨⟨_, rfl⟩, ?_⟩
        rw [hx'.out, upTo_append hg'.out, upTo_bad hgood]
        exact hj4
      · have hgg := Lib.hid (good_snoc hg'.out hgood)
        clear hgood
        gi_wp2
        go_roundw
        case rel =>
         exact ⟨pre ++ [y], k + 1, rest, by go_num, hlt, by rw [hstep.out], by simp [hpk'.out], by rw [hx'.out]; simp, hgg.out, hj4, hs4⟩
        case measure => simp [intOf]; omega
  · obtain rfl : k = Nl := by omega
    have hr0 : rest = [] := by
     have h1 := hlen.out
     rw [hx'.out] at h1
     simp at h1
     exact List.eq_nil_of_length_eq_zero (by have := hpk'.out; omega)
    subst hr0
    clear hpk hx hg
    gi_wp2
    go_end0
    refine ⟨⟨_, rfl⟩, ?_⟩
    rw [hx'.out, upTo_append hg'.out]
    simpa [upTo] using hj
attribute [local go_sem] Oper.semAt_some
theorem cellsOld {A A' : World} {g n : Nat} {t : TypeId} {cs : Array Value} {row : Option Nat} (h : At A g t cs) (hg : A.grownBy A' row) (hr : ∀ r, row = some r → n ≤ r ∧ ∃ o, A.heap[r]? = some o ∧ o.isCells = false) : At A' g t cs :=
 (hg.block g h.inside (fun e => by
  obtain ⟨_, o, ho, hc⟩ := hr g e.symm
  have h' : A.heap[g]? = some (.cells cs t (0, 0)) := h
  rw [h'] at ho
  cases ho
  cases hc)).trans h
def Filled (W : World) (p N : Nat) (pre : List (Int × Int)) : Prop :=
 ∃ cs : Array Value, At W p 3 cs ∧ cs.size = N ∧ ∀ (j : Nat) (x : Int), (pre.map (·.2))[j]? = some x → cs[j]? = some (.int .i64 x)
structure ProfI (w : World) (p N : Nat) (vl vt : Value) (l : List (Int × Int)) (t : List Rq) (pre : List (Int × Int)) (W : World) : Prop where
 row : Filled W p N pre
 res : At W (p + 1) 105 #[.slice (some ⟨p, 0, none⟩) N N]
 hl : At W (p + 2) 28 #[vl]
 ht : At W (p + 3) 37 #[vt]
 below : Below w.heap.size w W
theorem ProfI.old {w : World} {p N : Nat} {vl vt : Value} {l : List (Int × Int)} {t : List Rq} {m : Nat} (hm : w.heap.size ≤ m) : Old m (ProfI w p N vl vt l t) := by
 rintro pre A A' row h hg hr
 obtain ⟨cs, h1, h2, h3⟩ := h.row
 exact ⟨⟨cs, cellsOld h1 hg hr, h2, h3⟩, cellsOld h.res hg hr, cellsOld h.hl hg hr, cellsOld h.ht hg hr, h.below.grown hg h.below.size (fun k e => by have := (hr k e).1; omega)⟩
theorem Filled.next {W : World} {p N : Nat} {pre : List (Int × Int)} (h : Filled W p N pre) (hk : pre.length < N) (y : Int × Int) : Filled (W.setCell ⟨p, pre.length, none⟩ (.int .i64 y.2)) p N (pre ++ [y]) := by
 obtain ⟨cs, h1, h2, h3⟩ := h
 refine ⟨_, h1.put _ _, by simpa using h2, fun j x hj => ?_⟩
 rw [List.map_append] at hj
 rcases Nat.lt_or_ge j pre.length with hlt | hge
 · rw [List.getElem?_append_left (by simpa using hlt)] at hj
   rw [Array.getElem?_setIfInBounds_ne (by omega)]
   exact h3 j x hj
 · rw [List.getElem?_append_right (by simpa using hge)] at hj
   have h0 : j - pre.length = 0 := by
    have := (List.getElem?_eq_some_iff.1 hj).1
    simp at this
    omega
   simp [h0] at hj
   have hj2 : j = pre.length := by omega
   subst hj2
   rw [Array.getElem?_setIfInBounds_self_of_lt (by omega), hj]
theorem ProfI.next {w : World} {p N : Nat} {vl vt : Value} {l : List (Int × Int)} {t : List Rq} {pre : List (Int × Int)} {W : World} (h : ProfI w p N vl vt l t pre W) (hk : pre.length < N) (y : Int × Int) (hp : w.heap.size ≤ p) : ProfI w p N vl vt l t (pre ++ [y]) (W.setCell ⟨p, pre.length, none⟩ (.int .i64 y.2)) :=
 ⟨h.row.next hk y, h.res.far (by omega) _ _, h.hl.far (by omega) _ _, h.ht.far (by omega) _ _, h.below.setCell (by simp; omega) _⟩
attribute [local go_sem] Oper.semAt_some
theorem ret_ii {k j : IntKind} {a b c d : Int} (h : a = b) (h2 : c = d) : Ending.returned (.tuple #[.int k a, .int j c]) = .returned (.tuple #[.int k b, .int j d]) := by rw [h, h2]
structure PeakI (w : World) (p : Nat) (vl vt : Value) (pre : List (Int × Int)) (W : World) : Prop where
 top : At W p 3 #[.int .i64 (peakL (pre.map (·.2)))]
 hl : At W (p + 1) 28 #[vl]
 ht : At W (p + 2) 37 #[vt]
 below : Below w.heap.size w W
theorem PeakI.old {w : World} {p : Nat} {vl vt : Value} {m : Nat} (hm : w.heap.size ≤ m) : Old m (PeakI w p vl vt) := by
 rintro pre A A' row h hg hr
 exact ⟨cellsOld h.top hg hr, cellsOld h.hl hg hr, cellsOld h.ht hg hr, h.below.grown hg h.below.size (fun k e => by have := (hr k e).1; omega)⟩
theorem PeakI.next {w : World} {p : Nat} {vl vt : Value} {pre : List (Int × Int)} {W : World} (h : PeakI w p vl vt pre W) (y : Int × Int) (hp : w.heap.size ≤ p) (X : Int) (hX : X = max (peakL (pre.map (·.2))) y.2) : PeakI w p vl vt (pre ++ [y]) (W.setCell ⟨p, 0, none⟩ (.int .i64 X)) := by
 refine ⟨?_, h.hl.far (by omega) _ _, h.ht.far (by omega) _ _, h.below.setCell (by simp; omega) _⟩
 have := h.top.put 0 (.int .i64 X)
 rw [List.map_append, List.map_singleton, peakL_snoc, ← hX]
 simpa using this
end Go.Proofs.YteclpblfleakhaaGreatDoor.Load

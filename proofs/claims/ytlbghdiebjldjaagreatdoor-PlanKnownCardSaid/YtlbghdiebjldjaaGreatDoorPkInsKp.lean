import Derived.Test.YtlbghdiebjldjaaGreatDoorPkFeasSomeMath

namespace Go.Proofs.YtlbghdiebjldjaaGreatDoor.Ins
open Go.RowKit Go.Sort Go.Proofs.YtlbghdiebjldjaaGreatDoor.Mem Go.Proofs.YtlbghdiebjldjaaGreatDoor.Route
set_option linter.unusedVariables false
theorem mark_ne {done : Nat → Bool} {k i : Nat} (h : i ≠ k) : Sched.mark done k i = done i := by simp [Sched.mark, h]
theorem mark_eq {done : Nat → Bool} {k : Nat} : Sched.mark done k k = true := by simp [Sched.mark]
theorem upd_ne {ys : Nat → Value} {k i : Nat} {v : Value} (h : i ≠ k) : Sched.upd ys k v i = ys i := by simp [Sched.upd, h]
theorem upd_eq {ys : Nat → Value} {k : Nat} {v : Value} : Sched.upd ys k v k = v := by simp [Sched.upd]
def Kp (B : Nat) (T : TypeId) (w w' : World) : Prop := Below B w w' ∧ ∀ (b : Nat) (cs : Array Value) (t : TypeId) (f : Nat × Nat), w.heap[b]? = some (.cells cs t f) → t ≠ T → w'.heap[b]? = some (.cells cs t f)
theorem Kp.trans {B : Nat} {T : TypeId} {a b c : World} (h : Kp B T a b) (k : Kp B T b c) : Kp B T a c := ⟨h.1.trans k.1, fun i cs t f hi ht => k.2 i cs t f (h.2 i cs t f hi ht) ht⟩
theorem Kp.new {B : Nat} {T : TypeId} {a b : World} (h : Below a.heap.size a b) (hB : B ≤ a.heap.size) : Kp B T a b :=
 ⟨h.mono hB, fun i cs t f hi _ => (h.block i (Array.getElem?_eq_some_iff.1 hi).1).trans hi⟩
theorem Kp.at_ {B : Nat} {T : TypeId} {a b : World} {g : Nat} {t : TypeId} {cs : Array Value} (h : Kp B T a b) (hA : At a g t cs) (ht : t ≠ T) : At b g t cs := h.2 g cs t _ hA ht
theorem Kp.owns {B base : Nat} {T : TypeId} {a b : World} {e : TypeId} {size n : Nat} {v : Value} {xs : List Value} (h : Kp B T a b) (ho : a.ownsRow base e size v n xs) (ht : e ≠ T) : b.ownsRow base e size v n xs := by
 obtain ⟨hl, h1 | ⟨g, cap, cur, rfl, hg1, hg, hr⟩⟩ := ho
 · exact ⟨hl, .inl h1⟩
 · exact ⟨hl, .inr ⟨g, cap, cur, rfl, hg1, h.2 g cur e _ hg ht, hr⟩⟩
theorem Kp.size {B : Nat} {T : TypeId} {a b : World} (h : Kp B T a b) : a.heap.size ≤ b.heap.size := h.1.size
theorem Kp.grown {B base n m : Nat} {T : TypeId} {a b : World} {v : Value} {xs : List Value} (ho : a.ownsRow base T m v n xs) (hb : B ≤ base) (hg : a.grownBy b v.ownBlock) (hB : B ≤ a.heap.size) : Kp B T a b := by
 refine ⟨(Below.refl _ _).grown hg hB (fun r e => by have := owns_row ho r e; omega), fun i cs t f hi ht => ?_⟩
 refine (hg.block i (Array.getElem?_eq_some_iff.1 hi).1 (fun e => ?_)).trans hi
 rcases ho.2 with ⟨h1, h0⟩ | ⟨k, cap, cur, h1, hk, hk2, _⟩
 · rw [h1] at e; cases e
 · rw [h1] at e
   simp only [Value.ownBlock, Option.some.injEq] at e
   subst e
   rw [hi] at hk2
   cases hk2
   exact ht rfl
inductive KnT (B : Nat) (T : TypeId) where
 | val (u : Value)
 | of (p : Value → World → Prop) (hp : ∀ {v w w'}, p v w → Kp B T w w' → p v w')
 | any
def KnT.holds {B : Nat} {T : TypeId} : KnT B T → Value → World → Prop
 | .val u, v, _ => v = u
 | .of p _, v, w => p v w
 | .any, _, _ => True
def VT {B : Nat} {T : TypeId} (ks : List (KnT B T)) (i : Nat) (v : Value) (w : World) : Prop := ∀ k, ks[i]? = some k → k.holds v w
section
variable {B : Nat} {T : TypeId} {ks : List (KnT B T)} {i : Nat} {v u : Value} {w w' : World} {p : Value → World → Prop} {hp : ∀ {v w w'}, p v w → Kp B T w w' → p v w'}
theorem VT.keep (h : VT ks i v w) (hb : Kp B T w w') : VT ks i v w' := fun k hk => by
 have h1 := h k hk
 cases k with
 | val u => exact h1
 | of p hp => exact hp h1 hb
 | any => trivial
theorem VT.val (h : ks[i]? = some (.val u)) (e : v = u) : VT ks i v w := fun k hk => by rw [h] at hk; cases hk; exact e
theorem VT.of (h : ks[i]? = some (.of p hp)) (e : p v w) : VT ks i v w := fun k hk => by rw [h] at hk; cases hk; exact e
theorem VT.any (h : ks[i]? = some .any) : VT ks i v w := fun k hk => by rw [h] at hk; cases hk; trivial
theorem VT.eq (hV : VT ks i v w) (h : ks[i]? = some (.val u)) : v = u := hV _ h
theorem VT.get (hV : VT ks i v w) (h : ks[i]? = some (.of p hp)) : p v w := hV _ h
end
structure ZA (a s base N m : Nat) (T : TypeId) (cs : Array Value) (xs zs : List Value) (U : Value) (done : Nat → Bool) (ys : Nat → Value) (W : World) : Prop where
 r : done s = false → W.ownsRow base T m U N xs
 n : done a = true → done s = false → ∃ g : Nat, ys a = .slice (some ⟨g, 0, none⟩) 1 1 ∧ base ≤ g ∧ At W g T cs
 s : done s = true → W.ownsRow base T m (ys s) (N + 1) zs
section
variable {a s base N m : Nat} {T : TypeId} {cs : Array Value} {xs zs : List Value} {U : Value} {done : Nat → Bool} {ys : Nat → Value} {W W' : World} {v : Value}
theorem ZA.start (h : W.ownsRow base T m U N xs) : ZA a s base N m T cs xs zs U (fun _ => false) ys W.drew := ⟨fun _ => owns_below h (Below.refl _ _).drew, fun h => (by cases h), fun h => (by cases h)⟩
theorem ZA.light {k : Nat} (h : ZA a s base N m T cs xs zs U done ys W) (ha : a ≠ k) (hs : s ≠ k) (hb : Below W.heap.size W W') : ZA a s base N m T cs xs zs U (Sched.mark done k) (Sched.upd ys k v) W' := by
 refine ⟨?_, ?_, ?_⟩
 · rw [mark_ne hs]; exact fun h1 => owns_below (h.r h1) hb
 · rw [mark_ne hs, mark_ne ha, upd_ne ha]
   intro h1 h2
   obtain ⟨g, e, hg, hA⟩ := h.n h1 h2
   exact ⟨g, e, hg, hA.keep hb hA.inside⟩
 · rw [mark_ne hs, upd_ne hs]; exact fun h1 => owns_below (h.s h1) hb
theorem ZA.lay {g : Nat} (h : ZA a s base N m T cs xs zs U done ys W) (has : a ≠ s) (hb : Below W.heap.size W W') (hg : base ≤ g) (hA : At W' g T cs) : ZA a s base N m T cs xs zs U (Sched.mark done a) (Sched.upd ys a (.slice (some ⟨g, 0, none⟩) 1 1)) W' := by
 refine ⟨?_, ?_, ?_⟩
 · rw [mark_ne (Ne.symm has)]; exact fun h1 => owns_below (h.r h1) hb
 · rw [upd_eq]; exact fun _ _ => ⟨g, rfl, hg, hA⟩
 · rw [mark_ne (Ne.symm has), upd_ne (Ne.symm has)]; exact fun h1 => owns_below (h.s h1) hb
theorem ZA.put (h : ZA a s base N m T cs xs zs U done ys W) (hn : W'.ownsRow base T m v (N + 1) zs) : ZA a s base N m T cs xs zs U (Sched.mark done s) (Sched.upd ys s v) W' := by
 refine ⟨?_, ?_, ?_⟩
 · rw [mark_eq]; exact fun h1 => by cases h1
 · rw [mark_eq]; exact fun _ h1 => by cases h1
 · rw [upd_eq]; exact fun _ => hn
end
end Go.Proofs.YtlbghdiebjldjaaGreatDoor.Ins
namespace Go.Proofs.YtlbghdiebjldjaaGreatDoor.Load
open Go.RowKit Go.Shelf Go.Proofs.YtlbghdiebjldjaaGreatDoor.Mem Go.Proofs.YtlbghdiebjldjaaGreatDoor.Route Go.Proofs.YtlbghdiebjldjaaGreatDoor.When Go.Proofs.YtlbghdiebjldjaaGreatDoor.Up
set_option linter.unusedVariables false
attribute [local go_sem] Oper.semAt_some
def SgL (w : World) : Prop := w.cell? ⟨1, 0, none⟩ = some (.int .i64 1) ∧ w.cell? ⟨1, 1, none⟩ = some (.int .i64 (-1))
theorem SgL.pos {w : World} (h : SgL w) : 1 < w.heap.size := by
 obtain ⟨h, _⟩ := h
 rcases Nat.lt_or_ge 1 w.heap.size with h0 | h0
 · exact h0
 · simp [World.cell?, Array.getElem?_eq_none h0] at h
theorem SgL.keep {B : Nat} {w v : World} (h : SgL w) (hb : Below B w v) (hB : 1 < B) : SgL v := ⟨(hb.cell (p := ⟨1, 0, none⟩) hB).trans h.1, (hb.cell (p := ⟨1, 1, none⟩) hB).trans h.2⟩
def SgN (w : World) : Prop := w.cell? ⟨0, 0, none⟩ = some (.int .i64 (-1)) ∧ w.cell? ⟨0, 1, none⟩ = some (.int .i64 (-1)) ∧ w.cell? ⟨0, 2, none⟩ = some (.int .i64 9223372036854775807)
theorem SgN.pos {w : World} (h : SgN w) : 0 < w.heap.size := by
 obtain ⟨h, _⟩ := h
 rcases Nat.lt_or_ge 0 w.heap.size with h0 | h0
 · exact h0
 · simp [World.cell?, Array.getElem?_eq_none h0] at h
theorem SgN.keep {B : Nat} {w v : World} (h : SgN w) (hb : Below B w v) (hB : 0 < B) : SgN v := ⟨(hb.cell (p := ⟨0, 0, none⟩) hB).trans h.1, (hb.cell (p := ⟨0, 1, none⟩) hB).trans h.2.1, (hb.cell (p := ⟨0, 2, none⟩) hB).trans h.2.2⟩
def Sg (w : World) : Prop := SgL w ∧ SgN w
theorem Sg.signs {w : World} (h : Sg w) : SgL w := h.1
theorem Sg.none {w : World} (h : Sg w) : SgN w := h.2
theorem Sg.pos {w : World} (h : Sg w) : 1 < w.heap.size ∧ 0 < w.heap.size := ⟨h.1.pos, h.2.pos⟩
theorem Sg.keep {B : Nat} {w v : World} (h : Sg w) (hb : Below B w v) (hB : 1 < B ∧ 0 < B) : Sg v := ⟨h.1.keep hb hB.1, h.2.keep hb hB.2⟩
theorem Sg.on {w v : World} (h : Sg w) (hb : Below w.heap.size w v) : Sg v := h.keep hb h.pos
def prs (t : List Rq) (l : List (Int × Int)) : List (Int × Int) := (List.range l.length).map fun (k : Nat) => ((k : Int), acc t (l.take (k + 1)))
def encP (y : Int × Int) : Array Value := #[.int .i64 y.1, .int .i64 y.2]
theorem prs_length (t : List Rq) (l : List (Int × Int)) : (prs t l).length = l.length := by simp [prs]
theorem prs_at {t : List Rq} {l : List (Int × Int)} {pre rest : List (Int × Int)} {y : Int × Int} (h : prs t l = pre ++ y :: rest) : pre.length < l.length ∧ y = ((pre.length : Int), acc t (l.take (pre.length + 1))) := by
 have h1 : (prs t l)[pre.length]? = some y := by rw [h]; simp
 have h2 : pre.length < l.length := by
  have := congrArg List.length h
  rw [prs_length] at this
  simp at this
  omega
 unfold prs at h1
 rw [List.getElem?_map, List.getElem?_range h2] at h1
 simp only [Option.map_some, Option.some.injEq] at h1
 exact ⟨h2, h1.symm⟩
theorem prs_snd (t : List Rq) (l : List (Int × Int)) : (prs t l).map (·.2) = prof t l := by simp [prs, prof]
theorem Old.below {β : Type} {B : Nat} {J : β → World → Prop} (h : Old B J) {s : β} {A A' : World} (hs : J s A) (hb : Below A.heap.size A A') : J s A' :=
 h s A A' none hs ⟨hb.os, hb.tape, hb.output, hb.size, fun k hk _ => hb.block k hk⟩ (fun r e => by cases e)
theorem below_drewN {B : Nat} {A V : World} (h : Below B A V) (n : Nat) : Below B A (V.drewN n) := Place.below_drewN h n
theorem onBoard_any (xl xt : Option Addr) (Nl Cl Nt Ct : Nat) (w : World) :
 Calls Tryz.prog 89 #[.slice xl Nl Cl, .slice xt Nt Ct] w fun e w' =>
  e = .returned (.func (.func 115) #[] #[.pointer (some ⟨w.heap.size, 0, none⟩), .pointer (some ⟨w.heap.size + 1, 0, none⟩)]) ∧
  (w.alloc (.cells #[.slice xl Nl Cl] 59)).alloc (.cells #[.slice xt Nt Ct] 29) = w' := by
 go_enter Tryz.func89, Tryz.ntmps89
 go_wp2
 go_ret
 exact ⟨rfl, rfl⟩
structure BrdAt (B0 : Nat) (bl bt : Nat) (vl vt : Value) (l : List (Int × Int)) (t : List Rq) (A : World) : Prop where
 hl : At A bl 59 #[vl]
 ht : At A bt 29 #[vt]
 row : Row B0 A vl l
 rqs : Rqs B0 A vt t
 sg : Sg A
set_option maxRecDepth 100000 in
set_option maxHeartbeats 4000000 in
theorem board_runs (l : List (Int × Int)) (t : List Rq) (htold : toldV l t = 0) (vl vt : Value) (bl bt B0 B : Nat) (hB : B0 ≤ B) (good : Int × Int → Bool) (I : List (Int × Int) → World → Prop) (hI : ∀ p A, I p A → BrdAt B0 bl bt vl vt l t A) :
 Runs2 Tryz.prog 115 #[] #[.pointer (some ⟨bl, 0, none⟩), .pointer (some ⟨bt, 0, none⟩)] encP good (prs t l) B I := by
 intro ll J W hWB h0 hJ hJI hY
 refine callsIn_of_wp Tryz.func115 rfl trivial ?_ rfl
 simp only [Tryz.ntmps115, List.size_toArray, List.length_cons, List.length_nil, Nat.reduceAdd, Nat.reduceSub, Array.replicate_succ, Array.replicate_zero, List.push_toArray, List.append_toArray, List.nil_append, List.cons_append]
 have hV0 := hI _ _ (hJI _ _ h0)
 obtain ⟨xl, Nl, capl, rfl, hNl, hl0, hlc1, hlc2⟩ := hV0.row.opened
 obtain ⟨xt, Nt, capt, rfl, hNt0, htc1, htc2, ht0⟩ := hV0.rqs.opened
 have hNt := Lib.hid hNt0
 unfold maxLen at hlc2 htc2
 have l0 := hV0.hl.cell 0
 have hbl := hV0.hl.inside
 simp at l0
 have hWs : B ≤ W.heap.size := by omega
 have hlen : Hid ((prs t l).length = Nl) := Lib.hid (by rw [prs_length, hNl.out])
 have hbits := Lib.hid (told_bits htold).2.2
 have hbd := Lib.hid (fun (k : Nat) (hk : k ≤ l.length) => acc_bd htold hk)
 have hat := Lib.hid (fun (pre rest : List (Int × Int)) (y : Int × Int) (h : prs t l = pre ++ y :: rest) => prs_at h)
 have hY' := Lib.hid hY
 have hI' := Lib.hid hI
 clear hY hI hV0 hNt0 ht0 htold
 gi_wp2
 gi_loopw [4, 9] (fun u i wr => ∃ (pre : List (Int × Int)) (k : Nat) (rest : List (Int × Int)), i = .int .i64 k ∧ k ≤ Nl ∧ u = .int .i64 (acc t (l.take k)) ∧ pre.length = k ∧ prs t l = pre ++ rest ∧ (∀ y ∈ pre, good y = true) ∧ J pre wr ∧ B ≤ wr.heap.size)
  (fun _ i _ => Nl - (intOf i).toNat)
 case atStart => exact ⟨[], 0, prs t l, rfl, Nat.zero_le _, by simp [acc], rfl, rfl, (fun y hy => by cases hy), h0, hWs⟩
 case round =>
  obtain ⟨pre, k, rest, rfl, hk, rfl, hpk, hx, hg, hj, hs⟩ := hrel
  clear h0
  have hpk' := Lib.hid hpk
  have hx' := Lib.hid hx
  have hg' := Lib.hid hg
  by_cases hlt : k < Nl
  · obtain ⟨y, rest, rfl⟩ : ∃ y r, rest = y :: r := by
     cases rest with
     | nil =>
      exfalso
      have h1 := hlen.out
      rw [hx] at h1
      simp at h1
      omega
     | cons y r => exact ⟨y, r, rfl⟩
    have hy2 := Lib.hid (hat.out _ _ _ hx).2
    rw [hpk] at hy2
    clear hpk hx hg
    obtain ⟨s, hsl⟩ : ∃ s, l[k]? = some s := ⟨l[k]'(by rw [hNl.out]; exact hlt), List.getElem?_eq_getElem _⟩
    obtain ⟨q, hq, hr0, hrN, hld, hkd⟩ := hbits.out s (List.mem_of_getElem? hsl)
    have hstep := Lib.hid (show acc t (l.take (k + 1)) = acc t (l.take k) + sg s.2 * q.ld by rw [Load.take_get hsl, acc_snoc]; unfold stN; rw [ldR_get hq])
    have hb1 := hbd.out k (by rw [hNl.out]; exact hk)
    have hb2 := hbd.out (k + 1) (by rw [hNl.out]; exact hlt)
    rw [hstep.out] at hy2 hb2
    have hVk := hI'.out _ _ (hJI _ _ hj)
    obtain ⟨g, o, rfl, hgB, c0, c1⟩ := Row.stop hVk.row hsl
    have hjV := hJ.new hj (.cells #[.int .i64 s.1, .int .i64 s.2] 75)
    have hVV := hI'.out _ _ (hJI _ _ hjV)
    have t0 := hVV.ht.cell 0
    have hbt := hVk.ht.inside
    simp at t0
    have hss : B ≤ (wr.alloc (.cells #[.int .i64 s.1, .int .i64 s.2] 75)).heap.size := by simp; omega
    obtain ⟨s1, s2⟩ := s
    simp only at hq hr0 hrN hstep hy2 hb2 c0 c1 hkd
    obtain ⟨r, rfl⟩ : ∃ r : Nat, s1 = r := ⟨s1.toNat, by omega⟩
    simp only [Int.toNat_natCast] at hq
    obtain ⟨g2, o2, rfl, _, d0, d1, d2, d3, d4, d5, d6, d7, d8, d9⟩ := Rqs.at hVV.rqs hq
    have hrt : r < Nt := by have := (List.getElem?_eq_some_iff.1 hq).1; rw [hNt.out] at this; exact this
    obtain ⟨z0, z1⟩ := hVV.sg.signs
    have hS := At.new wr 75 #[.int .i64 (r : Int), .int .i64 s2]
    have a0 := hS.cell 0
    have a1 := hS.cell 1
    simp at a0 a1
    have hld1 := hld.1
    have hld2 := hld.2
    clear hVk hVV hsl hq d0 d1 d2 d3 d4 d5 d6 d7 d9 hld hrN hr0 hS
    obtain ⟨A, hA⟩ : ∃ A, acc t (l.take k) = A := ⟨_, rfl⟩
    rw [hA] at hstep hy2 hb1 hb2 ⊢
    clear hA
    obtain ⟨d, hd⟩ : ∃ d, q.ld = d := ⟨_, rfl⟩
    rw [hd] at hstep hy2 hb2 d8 hld1 hld2
    clear hd
    rcases hkd with rfl | rfl
    · simp only [show sg 0 = 1 from rfl, Int.one_mul] at hstep hy2 hb2
      have hb3 := hb1.1; have hb4 := hb1.2; have hb5 := hb2.1; have hb6 := hb2.2
      clear hb1 hb2
      gi_wp2_with fail
      gi_big_quiet_th (fail)
      have hjq := Old.below hJ hjV (below_drewN (Below.refl _ _) nq)
      have hsq : B ≤ ((wr.alloc (.cells #[.int .i64 (r : Int), .int .i64 0] 75)).drewN nq).heap.size := hss
      generalize (wr.alloc (.cells #[.int .i64 (r : Int), .int .i64 0] 75)).drewN nq = w3 at *
      obtain ⟨fn, tmps, assign, body, hyy, hR⟩ := hY'.out 1 pre y w3 ⟨rest, hx'.out⟩ hjq hg'.out hsq
      dsimp only [encP] at hyy
      rw [hy2.out] at hyy
      clear hjV hj hjq c0 c1 t0 hss a0 a1 z0 z1 d8
      gi_wp2_with fail
      refine hR.mono ?_
      clear hR hyy
      rintro e w4 ⟨rfl, hj4, hk4⟩
      have hs4 : B ≤ w4.heap.size := Nat.le_trans hsq hk4
      clear hk4
      cases hgood : good y
      · gi_wp2
        refine bodyPost_ret (results_none rfl _ _ _) rfl ?_
        refine ⟨⟨_, rfl⟩, ?_⟩
        rw [hx'.out, upTo_append hg'.out, upTo_bad hgood]
        exact hj4
      · have hgg := Lib.hid (good_snoc hg'.out hgood)
        clear hgood
        gi_wp2
        go_roundw
        case rel =>
         exact ⟨pre ++ [y], k + 1, rest, by go_num, hlt, by rw [hstep.out], by simp [hpk'.out], by rw [hx'.out]; simp, hgg.out, hj4, hs4⟩
        case measure => simp [intOf]; omega
    · simp only [show sg 1 = -1 from rfl, Int.neg_one_mul] at hstep hy2 hb2
      have hb3 := hb1.1; have hb4 := hb1.2; have hb5 := hb2.1; have hb6 := hb2.2
      clear hb1 hb2
      gi_wp2_with fail
      gi_big_quiet_th (fail)
      have hjq := Old.below hJ hjV (below_drewN (Below.refl _ _) nq)
      have hsq : B ≤ ((wr.alloc (.cells #[.int .i64 (r : Int), .int .i64 1] 75)).drewN nq).heap.size := hss
      generalize (wr.alloc (.cells #[.int .i64 (r : Int), .int .i64 1] 75)).drewN nq = w3 at *
      obtain ⟨fn, tmps, assign, body, hyy, hR⟩ := hY'.out 1 pre y w3 ⟨rest, hx'.out⟩ hjq hg'.out hsq
      dsimp only [encP] at hyy
      rw [hy2.out] at hyy
      clear hjV hj hjq c0 c1 t0 hss a0 a1 z0 z1 d8
      gi_wp2_with fail
      refine hR.mono ?_
      clear hR hyy
      rintro e w4 ⟨rfl, hj4, hk4⟩
      have hs4 : B ≤ w4.heap.size := Nat.le_trans hsq hk4
      clear hk4
      cases hgood : good y
      · gi_wp2
        refine bodyPost_ret (results_none rfl _ _ _) rfl ?_
        refine ⟨⟨_, rfl⟩, ?_⟩
        rw [hx'.out, upTo_append hg'.out, upTo_bad hgood]
        exact hj4
      · have hgg := Lib.hid (good_snoc hg'.out hgood)
        clear hgood
        gi_wp2
        go_roundw
        case rel =>
         exact ⟨pre ++ [y], k + 1, rest, by go_num, hlt, by rw [hstep.out], by simp [hpk'.out], by rw [hx'.out]; simp, hgg.out, hj4, hs4⟩
        case measure => simp [intOf]; omega
  · obtain rfl : k = Nl := by omega
    have hr0 : rest = [] := by
     have h1 := hlen.out
     rw [hx'.out] at h1
     simp at h1
     exact List.eq_nil_of_length_eq_zero (by have := hpk'.out; omega)
    subst hr0
    clear hpk hx hg
    gi_wp2
    go_end0
    refine ⟨⟨_, rfl⟩, ?_⟩
    rw [hx'.out, upTo_append hg'.out]
    simpa [upTo] using hj
attribute [local go_sem] Oper.semAt_some
theorem cellsOld {A A' : World} {g n : Nat} {t : TypeId} {cs : Array Value} {row : Option Nat} (h : At A g t cs) (hg : A.grownBy A' row) (hr : ∀ r, row = some r → n ≤ r ∧ ∃ o, A.heap[r]? = some o ∧ o.isCells = false) : At A' g t cs :=
 (hg.block g h.inside (fun e => by
  obtain ⟨_, o, ho, hc⟩ := hr g e.symm
  have h' : A.heap[g]? = some (.cells cs t (0, 0)) := h
  rw [h'] at ho
  cases ho
  cases hc)).trans h
def Filled (W : World) (p N : Nat) (pre : List (Int × Int)) : Prop :=
 ∃ cs : Array Value, At W p 3 cs ∧ cs.size = N ∧ ∀ (j : Nat) (x : Int), (pre.map (·.2))[j]? = some x → cs[j]? = some (.int .i64 x)
structure ProfI (w : World) (p N : Nat) (vl vt : Value) (l : List (Int × Int)) (t : List Rq) (pre : List (Int × Int)) (W : World) : Prop where
 row : Filled W p N pre
 res : At W (p + 1) 66 #[.slice (some ⟨p, 0, none⟩) N N]
 hl : At W (p + 2) 59 #[vl]
 ht : At W (p + 3) 29 #[vt]
 below : Below w.heap.size w W
theorem ProfI.old {w : World} {p N : Nat} {vl vt : Value} {l : List (Int × Int)} {t : List Rq} {m : Nat} (hm : w.heap.size ≤ m) : Old m (ProfI w p N vl vt l t) := by
 rintro pre A A' row h hg hr
 obtain ⟨cs, h1, h2, h3⟩ := h.row
 exact ⟨⟨cs, cellsOld h1 hg hr, h2, h3⟩, cellsOld h.res hg hr, cellsOld h.hl hg hr, cellsOld h.ht hg hr, h.below.grown hg h.below.size (fun k e => by have := (hr k e).1; omega)⟩
theorem Filled.next {W : World} {p N : Nat} {pre : List (Int × Int)} (h : Filled W p N pre) (hk : pre.length < N) (y : Int × Int) : Filled (W.setCell ⟨p, pre.length, none⟩ (.int .i64 y.2)) p N (pre ++ [y]) := by
 obtain ⟨cs, h1, h2, h3⟩ := h
 refine ⟨_, h1.put _ _, by simpa using h2, fun j x hj => ?_⟩
 rw [List.map_append] at hj
 rcases Nat.lt_or_ge j pre.length with hlt | hge
 · rw [List.getElem?_append_left (by simpa using hlt)] at hj
   rw [Array.getElem?_setIfInBounds_ne (by omega)]
   exact h3 j x hj
 · rw [List.getElem?_append_right (by simpa using hge)] at hj
   have h0 : j - pre.length = 0 := by
    have := (List.getElem?_eq_some_iff.1 hj).1
    simp at this
    omega
   simp [h0] at hj
   have hj2 : j = pre.length := by omega
   subst hj2
   rw [Array.getElem?_setIfInBounds_self_of_lt (by omega), hj]
theorem ProfI.next {w : World} {p N : Nat} {vl vt : Value} {l : List (Int × Int)} {t : List Rq} {pre : List (Int × Int)} {W : World} (h : ProfI w p N vl vt l t pre W) (hk : pre.length < N) (y : Int × Int) (hp : w.heap.size ≤ p) : ProfI w p N vl vt l t (pre ++ [y]) (W.setCell ⟨p, pre.length, none⟩ (.int .i64 y.2)) :=
 ⟨h.row.next hk y, h.res.far (by omega) _ _, h.hl.far (by omega) _ _, h.ht.far (by omega) _ _, h.below.setCell (by simp; omega) _⟩
attribute [local go_sem] Oper.semAt_some
theorem ret_ii {k j : IntKind} {a b c d : Int} (h : a = b) (h2 : c = d) : Ending.returned (.tuple #[.int k a, .int j c]) = .returned (.tuple #[.int k b, .int j d]) := by rw [h, h2]
structure PeakI (w : World) (p : Nat) (vl vt : Value) (pre : List (Int × Int)) (W : World) : Prop where
 top : At W p 3 #[.int .i64 (peakL (pre.map (·.2)))]
 hl : At W (p + 1) 59 #[vl]
 ht : At W (p + 2) 29 #[vt]
 below : Below w.heap.size w W
theorem PeakI.old {w : World} {p : Nat} {vl vt : Value} {m : Nat} (hm : w.heap.size ≤ m) : Old m (PeakI w p vl vt) := by
 rintro pre A A' row h hg hr
 exact ⟨cellsOld h.top hg hr, cellsOld h.hl hg hr, cellsOld h.ht hg hr, h.below.grown hg h.below.size (fun k e => by have := (hr k e).1; omega)⟩
theorem PeakI.next {w : World} {p : Nat} {vl vt : Value} {pre : List (Int × Int)} {W : World} (h : PeakI w p vl vt pre W) (y : Int × Int) (hp : w.heap.size ≤ p) (X : Int) (hX : X = max (peakL (pre.map (·.2))) y.2) : PeakI w p vl vt (pre ++ [y]) (W.setCell ⟨p, 0, none⟩ (.int .i64 X)) := by
 refine ⟨?_, h.hl.far (by omega) _ _, h.ht.far (by omega) _ _, h.below.setCell (by simp; omega) _⟩
 have := h.top.put 0 (.int .i64 X)
 rw [List.map_append, List.map_singleton, peakL_snoc, ← hX]
 simpa using this
attribute [local go_sem] Oper.semAt_some
theorem vehicle_any (v : Vh) (w : World) : Calls Tryz.prog 34 #[.agg #[.int .i64 v.hx, .int .i64 v.hy, .int .i64 v.cp, .int .i64 v.st, .int .i64 v.en]] w
 fun e w' => e = .returned (.int .i64 v.chk) ∧ Below w.heap.size w w' := Order.Vehicle_any _ _ _ _ _ w
def roomB (c : Int) (y : Int × Int) : Bool := !decide (c < y.2)
theorem upTo_stop {α : Type} {good : α → Bool} : ∀ {xs : List α}, ¬ (∀ y ∈ xs, good y = true) → ∃ pre y rest, xs = pre ++ y :: rest ∧ (∀ z ∈ pre, good z = true) ∧ good y = false ∧ upTo good xs = pre ++ [y]
 | [], h => absurd (fun y hy => by cases hy) h
 | x :: xs, h => by
  cases hx : good x
  · exact ⟨[], x, xs, rfl, (fun z hz => by cases hz), hx, by rw [upTo_bad hx]; rfl⟩
  · obtain ⟨pre, y, rest, e, h1, h2, h3⟩ := upTo_stop (xs := xs) (fun hh => h fun y hy => by
     rcases List.mem_cons.1 hy with rfl | hy
     · exact hx
     · exact hh y hy)
    refine ⟨x :: pre, y, rest, by rw [e]; rfl, fun z hz => ?_, h2, by rw [upTo_good hx, h3]; rfl⟩
    rcases List.mem_cons.1 hz with rfl | hz
    · exact hx
    · exact h1 z hz
structure FitI (w : World) (v : Vh) (q p : Nat) (vl vt : Value) (good : Int × Int → Bool) (pre : List (Int × Int)) (W : World) : Prop where
 veh : At W q 64 #[.int .i64 v.hx, .int .i64 v.hy, .int .i64 v.cp, .int .i64 v.st, .int .i64 v.en]
 a : ∃ u, At W (q + 1) 3 #[.int .i64 u] ∧ ∀ pre' y, pre = pre' ++ [y] → good y = false → u = y.1
 e : ∃ u, At W (q + 2) 33 #[.int .i64 u] ∧ ∀ pre' y, pre = pre' ++ [y] → good y = false → u = 10
 hl : At W p 59 #[vl]
 ht : At W (p + 1) 29 #[vt]
 below : Below w.heap.size w W
theorem FitI.old {w : World} {v : Vh} {q p : Nat} {vl vt : Value} {good : Int × Int → Bool} {m : Nat} (hm : w.heap.size ≤ m) : Old m (FitI w v q p vl vt good) := by
 rintro pre A A' row h hg hr
 obtain ⟨u1, h1, h2⟩ := h.a
 obtain ⟨u3, h3, h4⟩ := h.e
 exact ⟨cellsOld h.veh hg hr, ⟨u1, cellsOld h1 hg hr, h2⟩, ⟨u3, cellsOld h3 hg hr, h4⟩, cellsOld h.hl hg hr, cellsOld h.ht hg hr, h.below.grown hg h.below.size (fun k e => by have := (hr k e).1; omega)⟩
theorem FitI.go {w : World} {v : Vh} {q p : Nat} {vl vt : Value} {good : Int × Int → Bool} {pre : List (Int × Int)} {W : World} (h : FitI w v q p vl vt good pre W) (y : Int × Int) (hy : good y = true) : FitI w v q p vl vt good (pre ++ [y]) W := by
 obtain ⟨u1, h1, h2⟩ := h.a
 obtain ⟨u3, h3, h4⟩ := h.e
 refine ⟨h.veh, ⟨u1, h1, fun pre' z e hz => ?_⟩, ⟨u3, h3, fun pre' z e hz => ?_⟩, h.hl, h.ht, h.below⟩
 · have e2 := List.append_inj_right' e rfl
   simp only [List.cons.injEq, and_true] at e2
   rw [← e2, hy] at hz
   cases hz
 · have e2 := List.append_inj_right' e rfl
   simp only [List.cons.injEq, and_true] at e2
   rw [← e2, hy] at hz
   cases hz
theorem FitI.stop {w : World} {v : Vh} {q p : Nat} {vl vt : Value} {good : Int × Int → Bool} {pre : List (Int × Int)} {W : World} (h : FitI w v q p vl vt good pre W) (y : Int × Int) (hq : w.heap.size ≤ q) (hp : q + 2 < p) :
 FitI w v q p vl vt good (pre ++ [y]) ((W.setCell ⟨q + 1, 0, none⟩ (.int .i64 y.1)).setCell ⟨q + 2, 0, none⟩ (.int .i64 10)) := by
 obtain ⟨u1, h1, h2⟩ := h.a
 obtain ⟨u3, h3, h4⟩ := h.e
 refine ⟨(h.veh.far (by omega) _ _).far (by omega) _ _, ⟨y.1, by simpa using (h1.put 0 (.int .i64 y.1)).far (b := q + 2) (by omega) 0 (.int .i64 10), fun pre' z e hz => ?_⟩, ⟨10, by simpa using (h3.far (b := q + 1) (by omega) 0 (.int .i64 y.1)).put 0 (.int .i64 10), fun _ _ _ _ => rfl⟩, (h.hl.far (by omega) _ _).far (by omega) _ _, (h.ht.far (by omega) _ _).far (by omega) _ _, (h.below.setCell (by simp; omega) _).setCell (by simp; omega) _⟩
 have e2 := List.append_inj_right' e rfl
 simp only [List.cons.injEq, and_true] at e2
 rw [e2]
theorem fit_all {v : Vh} {l : List (Int × Int)} {t : List Rq} (hv : v.chk = 0) (ht : toldV l t = 0) (h : ∀ y ∈ prs t l, roomB v.cp y = true) : fitAt v l t = -1 ∧ fitE v l t = 0 := by
 have hp : profV l t = prof t l := by unfold profV; rw [if_pos ht]
 have h1 : ∀ x ∈ prof t l, x ≤ v.cp := by
  intro x hx
  rw [← prs_snd] at hx
  obtain ⟨y, hy, rfl⟩ := List.mem_map.1 hx
  have := h y hy
  simp [roomB] at this
  exact this
 unfold fitAt fitE
 rw [if_pos hv, if_neg (by omega), if_neg (by omega), hp]
 refine ⟨fstF_no h1, ?_⟩
 rw [if_neg]
 unfold moreB
 rw [List.any_eq_true]
 rintro ⟨x, hx, hc⟩
 have := h1 x hx
 simp at hc
 omega
theorem fit_bad {v : Vh} {l : List (Int × Int)} {t : List Rq} (hv : v.chk = 0) (ht : toldV l t = 0) {pre rest : List (Int × Int)} {y : Int × Int} (hx : prs t l = pre ++ y :: rest) (h : ∀ z ∈ pre, roomB v.cp z = true) (hy : roomB v.cp y = false) : fitAt v l t = y.1 ∧ fitE v l t = 10 := by
 have hp : profV l t = prof t l := by unfold profV; rw [if_pos ht]
 have hs : prof t l = pre.map (·.2) ++ y.2 :: rest.map (·.2) := by rw [← prs_snd, hx]; simp
 have hy2 : v.cp < y.2 := by simpa [roomB] using hy
 have h1 : ∀ x ∈ pre.map (·.2), x ≤ v.cp := by
  intro x hx
  obtain ⟨z, hz, rfl⟩ := List.mem_map.1 hx
  have := h z hz
  simp [roomB] at this
  exact this
 unfold fitAt fitE
 rw [if_pos hv, if_neg (by omega), if_neg (by omega), hp]
 constructor
 · unfold fstV
   rw [hs, fstF_at hy2 h1, (prs_at hx).2]
   simp
 · rw [if_pos]
   unfold moreB
   rw [hs, List.any_eq_true]
   exact ⟨y.2, by simp, by simpa using hy2⟩
set_option maxRecDepth 100000 in
set_option maxHeartbeats 4000000 in
theorem Fits_any (v : Vh) (vl vt : Value) (l : List (Int × Int)) (t : List Rq) (hl : l.length ≤ 1000000) (hnum : Nums l) (w : World) (hsg : Sg w) (hL : Row w.heap.size w vl l) (hT : Rqs w.heap.size w vt t) :
 Calls Tryz.prog 55 #[.agg #[.int .i64 v.hx, .int .i64 v.hy, .int .i64 v.cp, .int .i64 v.st, .int .i64 v.en], vl, vt] w fun e w' => e = .returned (.tuple #[.int .i64 (fitAt v l t), .int .i64 (fitE v l t)]) ∧ Below w.heap.size w w' := by
 obtain ⟨xl, Nl, capl, rfl, hNl, hl0, hlc1, hlc2⟩ := hL.opened
 obtain ⟨xt, Nt, capt, rfl, hNt0, htc1, htc2, ht0⟩ := hT.opened
 unfold maxLen at hlc2
 have hL' := Lib.hid hL
 have hT' := Lib.hid hT
 obtain ⟨q, hq⟩ : ∃ q, w.heap.size = q := ⟨_, rfl⟩
 obtain ⟨w0, hw0⟩ : ∃ w0, ((w.alloc (.cells #[.int .i64 v.hx, .int .i64 v.hy, .int .i64 v.cp, .int .i64 v.st, .int .i64 v.en] 64)).alloc (.cells #[.int .i64 0] 3)).alloc (.cells #[.int .i64 0] 33) = w0 := ⟨_, rfl⟩
 have hV0 : At w0 q 64 #[.int .i64 v.hx, .int .i64 v.hy, .int .i64 v.cp, .int .i64 v.st, .int .i64 v.en] := by rw [← hw0]; exact ((At.new_ _ _ _ hq.symm).alloc _).alloc _
 have hA0 : At w0 (q + 1) 3 #[.int .i64 0] := by rw [← hw0]; exact (At.new_ _ _ _ (by simp [hq])).alloc _
 have hE0 : At w0 (q + 2) 33 #[.int .i64 0] := by rw [← hw0]; exact At.new_ _ _ _ (by simp [hq])
 have hb0 : Below w.heap.size w w0 := by rw [← hw0]; exact (((Below.refl _ _).alloc (Nat.le_refl _) _).alloc (by simp) _).alloc (by simp; omega) _
 have hs0 : w0.heap.size = q + 3 := by rw [← hw0]; simp [hq]
 have hck := Lib.hid (fun (w1 : World) (hb : Below w.heap.size w w1) => check_any _ _ l t hl hnum w1 (hL'.out.on hb) (hT'.out.on hb))
 have hw0' := Lib.hid hw0
 have hq' := Lib.hid hq
 obtain ⟨V, hV⟩ : ∃ V, v.chk = V := ⟨_, rfl⟩
 obtain ⟨E, hE⟩ : ∃ E, toldV l t = E := ⟨_, rfl⟩
 have hcv := vehicle_any v w0
 rw [hV] at hcv
 simp only [hE] at hck
 have hV' := Lib.hid hV
 have hE' := Lib.hid hE
 have hqle : w.heap.size ≤ q := by omega
 clear hL hT hNt0 ht0 hl hnum hE hV hw0
 refine (callsIn_wide (n := 3)).1 ?_
 refine callsIn_of_wp_marks Tryz.func55 rfl trivial ?_ rfl
 simp only [Tryz.ntmps55, List.size_toArray, List.length_cons, List.length_nil, Nat.reduceAdd, Nat.reduceSub, Array.replicate_succ, Array.replicate_zero, List.push_toArray, List.append_toArray, List.nil_append, List.cons_append]
 have v0 := hV0.cell 0
 have v1 := hV0.cell 1
 have v2 := hV0.cell 2
 have v3 := hV0.cell 3
 have v4 := hV0.cell 4
 simp at v0 v1 v2 v3 v4
 gi_wp2_with fail
 refine ⟨trivial, ?_⟩
 rw [hw0'.out]
 refine (callsIn_wide.2 hcv).mono ?_
 clear hcv v0 v1 v2 v3 v4
 rintro e w1 ⟨rfl, hb1⟩
 have hB1 := hb0.trans (hb1.mono hb0.size)
 have hV1 := hV0.keep hb1 hV0.inside
 have hA1 := hA0.keep hb1 hA0.inside
 have hE1 := hE0.keep hb1 hE0.inside
 clear hb0 hb1 hV0 hA0 hE0 hs0
 have hi0 := hV1.inside
 have hi1 := hA1.inside
 have hi2 := hE1.inside
 cases hv0 : (V == 0)
 · have hv1 : (V != 0) = true := by simpa using hv0
   have hw : Hid (fitAt v l t = -1 ∧ fitE v l t = V) := Lib.hid (by
    have h1 : v.chk ≠ 0 := by rw [hV'.out]; simpa using hv0
    unfold fitAt fitE
    rw [if_neg h1, if_pos h1, hV'.out]
    exact ⟨rfl, rfl⟩)
   have a0 := hA1.cell 0
   have af := hA1.free 0
   have e0 := hE1.cell 0
   have ef := hE1.free 0
   simp at a0 e0
   gi_wp2
   obtain ⟨W9, hW9⟩ : ∃ W9, (w1.setCell ⟨q + 1, 0, none⟩ (.int .i64 (-1))).setCell ⟨q + 2, 0, none⟩ (.int .i64 V) = W9 := ⟨_, rfl⟩
   have k1 : At W9 (q + 1) 3 #[.int .i64 (-1)] := by rw [← hW9]; simpa using (hA1.put 0 (.int .i64 (-1))).far (b := q + 2) (by omega) 0 (.int .i64 V)
   have k2 : At W9 (q + 2) 33 #[.int .i64 V] := by rw [← hW9]; simpa using (hE1.far (b := q + 1) (by omega) 0 (.int .i64 (-1))).put 0 (.int .i64 V)
   have hB9 : Below w.heap.size w W9 := by rw [← hW9]; exact (hB1.setCell (by simp; omega) _).setCell (by simp; omega) _
   have k3 := k1.cell 0
   have k4 := k2.cell 0
   simp at k3 k4
   rw [hW9]
   exact ⟨.tuple #[.int .i64 (-1), .int .i64 V], by simp [results, Tryz.results55, go_sem, k3, k4], ret_ii hw.out.1.symm hw.out.2.symm, hB9⟩
 · have hv1 : (V != 0) = false := by simpa using hv0
   have hvz : Hid (v.chk = 0) := Lib.hid (by rw [hV'.out]; simpa using hv0)
   gi_wp2_with fail
   refine ⟨trivial, ?_⟩
   refine (callsIn_wide.2 (hck.out w1 hB1)).mono ?_
   rintro e w2 ⟨rfl, hb2⟩
   have hB2 := hB1.trans (hb2.mono hB1.size)
   have hV2 := hV1.keep hb2 hi0
   have hA2 := hA1.keep hb2 hi1
   have hE2 := hE1.keep hb2 hi2
   clear hb2 hB1 hV1 hA1 hE1 hi0 hi1 hi2
   have hi0 := hV2.inside
   have hi1 := hA2.inside
   have hi2 := hE2.inside
   cases he0 : (E == 0)
   · have he1 : (E != 0) = true := by simpa using he0
     have hw : Hid (fitAt v l t = -1 ∧ fitE v l t = E) := Lib.hid (by
      have h1 : toldV l t ≠ 0 := by rw [hE'.out]; simpa using he0
      unfold fitAt fitE profV
      rw [if_pos hvz.out, if_neg h1, if_neg (show ¬ v.chk ≠ 0 by rw [hvz.out]; simp), if_pos h1, hE'.out]
      exact ⟨rfl, rfl⟩)
     have a0 := hA2.cell 0
     have af := hA2.free 0
     have e0 := hE2.cell 0
     have ef := hE2.free 0
     simp at a0 e0
     gi_wp2
     obtain ⟨W9, hW9⟩ : ∃ W9, (w2.setCell ⟨q + 1, 0, none⟩ (.int .i64 (-1))).setCell ⟨q + 2, 0, none⟩ (.int .i64 E) = W9 := ⟨_, rfl⟩
     have k1 : At W9 (q + 1) 3 #[.int .i64 (-1)] := by rw [← hW9]; simpa using (hA2.put 0 (.int .i64 (-1))).far (b := q + 2) (by omega) 0 (.int .i64 E)
     have k2 : At W9 (q + 2) 33 #[.int .i64 E] := by rw [← hW9]; simpa using (hE2.far (b := q + 1) (by omega) 0 (.int .i64 (-1))).put 0 (.int .i64 E)
     have hB9 : Below w.heap.size w W9 := by rw [← hW9]; exact (hB2.setCell (by simp; omega) _).setCell (by simp; omega) _
     have k3 := k1.cell 0
     have k4 := k2.cell 0
     simp at k3 k4
     rw [hW9]
     exact ⟨.tuple #[.int .i64 (-1), .int .i64 E], by simp [results, Tryz.results55, go_sem, k3, k4], ret_ii hw.out.1.symm hw.out.2.symm, hB9⟩
   · have he1 : (E != 0) = false := by simpa using he0
     have htz : Hid (toldV l t = 0) := Lib.hid (by rw [hE'.out]; simpa using he0)
     obtain ⟨p, hp⟩ : ∃ p, w2.heap.size = p := ⟨_, rfl⟩
     obtain ⟨w3, hw3⟩ : ∃ w3, (w2.alloc (.cells #[.slice xl Nl capl] 59)).alloc (.cells #[.slice xt Nt capt] 29) = w3 := ⟨_, rfl⟩
     have hs3 : w3.heap.size = p + 2 := by rw [← hw3]; simp [hp]
     have hqp : q + 2 < p := by rw [← hp]; exact hi2
     have hI0 : FitI w v q p (.slice xl Nl capl) (.slice xt Nt capt) (roomB v.cp) [] w3 := by
      rw [← hw3]
      refine ⟨(hV2.alloc _).alloc _, ⟨0, (hA2.alloc _).alloc _, fun pre' z e => ?_⟩, ⟨0, (hE2.alloc _).alloc _, fun pre' z e => ?_⟩, (At.new_ _ _ _ hp.symm).alloc _, At.new_ _ _ _ (by simp [hp]), (hB2.alloc hB2.size _).alloc (by simp; omega) _⟩
      · exact absurd (congrArg List.length e) (by simp)
      · exact absurd (congrArg List.length e) (by simp)
     have hrun := board_runs l t htz.out (.slice xl Nl capl) (.slice xt Nt capt) p (p + 1) w.heap.size (w3.heap.size + 2) (by omega) (roomB v.cp) (FitI w v q p (.slice xl Nl capl) (.slice xt Nt capt) (roomB v.cp))
      (fun q A hA => ⟨hA.hl, hA.ht, hL'.out.keep hA.below (Nat.le_refl _), hT'.out.keep hA.below (Nat.le_refl _), hsg.on hA.below⟩)
     have hI0' := Lib.hid hI0
     have hrun' := Lib.hid hrun
     have hw3' := Lib.hid hw3
     have hp' := Lib.hid hp
     clear hI0 hrun hw3 hp hV2 hA2 hE2 hB2 hck
     gi_wp2_with fail
     refine ⟨trivial, ?_⟩
     refine (callsIn_wide.2 (onBoard_any xl xt Nl capl Nt capt w2)).mono ?_
     rintro e w3' ⟨rfl, hw3⟩
     obtain rfl : w3 = w3' := hw3'.out.symm.trans hw3
     clear hw3
     rw [hp'.out]
     gi_wp2_with fail
     refine rangesRound2 (gf := 115) (fst := #[]) (lb := #[.pointer (some ⟨p, 0, none⟩), .pointer (some ⟨p + 1, 0, none⟩)]) rfl (enters_of Tryz.func115 (by kernel_rfl) rfl) (encs := encP) (good := roomB v.cp) (xs := prs t l) (fun _ => rfl)
      (FitI w v q p (.slice xl Nl capl) (.slice xt Nt capt) (roomB v.cp)) (FitI.old (by omega)) hI0'.out hrun'.out ?round ?done ?stop
     case round =>
      rintro l2 pre y Wr ⟨rest, hx⟩ hW2 - hg
      dsimp only [encP]
      clear hx
      gi_wp2
      refine ⟨gRefl _ _, fun Vr hVs hVb hI2 => ?_⟩
      have hI2' := Lib.hid hI2
      have c0 := hI2.veh.cell 2
      simp at c0
      obtain ⟨u1, hu1, _⟩ := hI2.a
      obtain ⟨u3, hu3, _⟩ := hI2.e
      have a0 := hu1.cell 0
      have af := hu1.free 0
      have e0 := hu3.cell 0
      have ef := hu3.free 0
      simp at a0 e0
      have hiv := hI2.veh.inside
      have hpi := hu1.inside
      have hpe := hu3.inside
      clear hI2 hVb hg hI0' hrun' hw3' hu1 hu3
      cases hr : decide (v.cp < y.2)
      · have hgd : Hid (roomB v.cp y = true) := Lib.hid (by unfold roomB; rw [hr]; rfl)
        gi_wp2
        exact ⟨hgd.out, FitI.go hI2'.out y hgd.out, Held.refl _ _⟩
      · have hgd : Hid (roomB v.cp y = false) := Lib.hid (by unfold roomB; rw [hr]; rfl)
        gi_wp2
        exact ⟨hgd.out, FitI.stop hI2'.out y hqle hqp, (Held.setCell _ (by omega) (by omega) _).trans (Held.setCell _ (by omega) (by omega) _)⟩
     case done =>
      rintro Wr hW2 hI2 hall hD
      have hw := Lib.hid (fit_all hvz.out htz.out hall)
      obtain ⟨u1, hA2, _⟩ := hI2.a
      obtain ⟨u3, hE2, _⟩ := hI2.e
      have hB2 := hI2.below
      have a0 := hA2.cell 0
      have af := hA2.free 0
      have e0 := hE2.cell 0
      have ef := hE2.free 0
      simp at a0 e0
      have hpi := hA2.inside
      have hpe := hE2.inside
      clear hI2 hall hI0' hrun' hw3'
      gi_wp2
      obtain ⟨W9, hW9⟩ : ∃ W9, (Wr.setCell ⟨q + 1, 0, none⟩ (.int .i64 (-1))).setCell ⟨q + 2, 0, none⟩ (.int .i64 0) = W9 := ⟨_, rfl⟩
      have k1 : At W9 (q + 1) 3 #[.int .i64 (-1)] := by rw [← hW9]; simpa using (hA2.put 0 (.int .i64 (-1))).far (b := q + 2) (by omega) 0 (.int .i64 0)
      have k2 : At W9 (q + 2) 33 #[.int .i64 0] := by rw [← hW9]; simpa using (hE2.far (b := q + 1) (by omega) 0 (.int .i64 (-1))).put 0 (.int .i64 0)
      have hB9 : Below w.heap.size w W9 := by rw [← hW9]; exact (hB2.setCell (by simp; omega) _).setCell (by simp; omega) _
      have hD9 : W9.heap[w3.heap.size]? = some (.deferred (some [])) := by
       rw [← hW9]
       exact (Below.heap_setCell _ _ _ _ (by show w3.heap.size ≠ q + 2; omega)).trans ((Below.heap_setCell _ _ _ _ (by show w3.heap.size ≠ q + 1; omega)).trans hD)
      rw [hW9]
      have k5 : At (W9.putObj w3.heap.size (.deferred none)) (q + 1) 3 #[.int .i64 (-1)] := (World.putObj_heap_other (by omega)).trans k1
      have k6 : At (W9.putObj w3.heap.size (.deferred none)) (q + 2) 33 #[.int .i64 0] := (World.putObj_heap_other (by omega)).trans k2
      have k3 := k5.cell 0
      have k4 := k6.cell 0
      simp at k3 k4
      have hBA : Below w.heap.size w (W9.putObj w3.heap.size (.deferred none)) := hB9.grown (grownBy_putObj' _ _ _) hB9.size (fun r e => by cases e; omega)
      refine ⟨by simp, .inl ⟨_, _, rfl, run_takeDeferred hD9, ?_⟩⟩
      exact ⟨.tuple #[.int .i64 (-1), .int .i64 0], by simp [results, Tryz.results55, go_sem, k3, k4], ret_ii hw.out.1.symm hw.out.2.symm, hBA⟩
     case stop =>
      rintro Wr hW2 hI2 hbad hD
      obtain ⟨pre, y, rest, hx, hg, hy, hup⟩ := upTo_stop hbad
      have hw := Lib.hid (fit_bad hvz.out htz.out hx hg hy)
      rw [hup] at hI2
      obtain ⟨u1, hA2, hu1⟩ := hI2.a
      obtain ⟨u3, hE2, hu3⟩ := hI2.e
      obtain rfl := hu1 pre y rfl hy
      obtain rfl := hu3 pre y rfl hy
      have hB2 := hI2.below
      have k5 : At (Wr.putObj w3.heap.size (.deferred none)) (q + 1) 3 #[.int .i64 y.1] := (World.putObj_heap_other (by omega)).trans hA2
      have k6 : At (Wr.putObj w3.heap.size (.deferred none)) (q + 2) 33 #[.int .i64 10] := (World.putObj_heap_other (by omega)).trans hE2
      have k3 := k5.cell 0
      have k4 := k6.cell 0
      simp at k3 k4
      have hBA : Below w.heap.size w (Wr.putObj w3.heap.size (.deferred none)) := hB2.grown (grownBy_putObj' _ _ _) hB2.size (fun r e => by cases e; omega)
      clear hI2 hbad hI0' hrun' hw3' hx hg hy hup hu1 hu3 hA2 hE2
      gi_wp2
      refine ⟨by simp, .inl ⟨_, _, rfl, run_takeDeferred hD, ?_⟩⟩
      exact ⟨.tuple #[.int .i64 y.1, .int .i64 10], by simp [results, Tryz.results55, go_sem, k3, k4], ret_ii hw.out.1.symm hw.out.2.symm, hBA⟩
end Go.Proofs.YtlbghdiebjldjaaGreatDoor.Load

import Derived.Test.YteclpblfleakhaaGreatDoorPkShelf
import Derived.Test.YteclpblfleakhaaGreatDoorPkSchedVK

namespace Go.Proofs.YteclpblfleakhaaGreatDoor.Plan
open Go.RowKit Go.Sort Go.Proofs.YteclpblfleakhaaGreatDoor.Mem Go.Proofs.YteclpblfleakhaaGreatDoor.Route Go.Proofs.YteclpblfleakhaaGreatDoor.When
set_option linter.unusedVariables false
def EmptyAt (B : Nat) (e : TypeId) (m : Nat) (v : Value) (w : World) : Prop := ∃ g : Nat, v = .slice (some ⟨g, 0, none⟩) 0 0 ∧ w.ownsRow B e m v 0 []
def RowAt (B : Nat) (e : TypeId) (m n : Nat) (xs : List Value) (v : Value) (w : World) : Prop := w.ownsRow B e m v n xs
theorem EmptyAt.keep {B : Nat} {e : TypeId} {m : Nat} {v : Value} {w w' : World} (h : EmptyAt B e m v w) (hb : Below w.heap.size w w') : EmptyAt B e m v w' := by
 obtain ⟨g, h1, h2⟩ := h
 exact ⟨g, h1, owns_below h2 hb⟩
theorem RowAt.keep {B : Nat} {e : TypeId} {m n : Nat} {xs : List Value} {v : Value} {w w' : World} (h : RowAt B e m n xs v w) (hb : Below w.heap.size w w') : RowAt B e m n xs v w' := owns_below h hb
theorem ownsEmptyQ {W : World} {base n : Nat} {e : TypeId} {m : Nat} (hn : n = W.heap.size) (hb : base ≤ n) : (W.alloc (.cells #[] e)).ownsRow base e m (.slice (some ⟨n, 0, none⟩) 0 0) 0 [] := by
 subst hn
 exact ⟨by simp, .inr ⟨W.heap.size, 0, #[], rfl, hb, heap_alloc_new W _, Nat.le_refl _, Nat.zero_le _, by simp, by simp⟩⟩
theorem rqV_lenP {t : List Rq} : ∀ r ∈ t.map rqV, r.length = 10 := fun r hr => by obtain ⟨s, _, rfl⟩ := List.mem_map.1 hr; rfl
theorem flatQ_length (t : List Rq) : (flatQ t).length = t.length * 10 := by
 induction t with
 | nil => rfl
 | cons q t ih =>
  have : flatQ (q :: t) = rqV q ++ flatQ t := by simp [flatQ]
  rw [this, List.length_append, ih]
  simp [rqV]
  omega
theorem rqs_flat {B : Nat} {W : World} {b : Addr} {N cap : Nat} {l : List Rq} (h : Rqs B W (.slice (some b) N cap) l) : ∀ j u, (flatQ l)[j]? = some u → W.cell? (b.add j) = some u := by
 intro j u hj
 obtain ⟨i, k, r, e, hr, hu⟩ := flat_of (m := 10) (by decide) rqV_lenP j u hj
 obtain ⟨g, o, hx, hg, hc⟩ := RowB.row h hr
 cases hx
 have := hc k u hu
 rw [add_at, e, show o + (i * 10 + k) = o + i * 10 + k by omega]
 exact this
theorem flatQ_one {t : List Rq} : ∀ u ∈ flatQ t, u.oneCell' = true := by
 intro u hu
 simp only [flatQ, List.mem_flatten, List.mem_map] at hu
 obtain ⟨r, ⟨s, _, rfl⟩, hu⟩ := hu
 simp only [rqV, List.mem_cons, List.not_mem_nil, or_false] at hu
 rcases hu with rfl | rfl | rfl | rfl | rfl | rfl | rfl | rfl | rfl | rfl <;> rfl
theorem wpList_append_fresh {P : Program} {w : World} {ops : Array Oper} {rest : List Oper} {o : Oper} {a : Act} {Q : Exit → Act → World → Prop} (hgd : o.guard = none) (s x : Operand) (t : TypeId)
 (ho : o.op = .call { callee := .builtin .append, args := #[s, x], argTypes := #[t, t] })
 (base : Nat) (e : TypeId) (i : TypeInfo) (z : Value) (size bytes : Nat) (ht : P.underlying t = some (.slice e)) (hi : P.info? e = some i) (hz : i.zero = some z)
 (hsize : i.size = size) (hby : i.bytes = bytes) (hzs : z.cells.size = size) (hsz : 0 < size)
 (g : Nat) (hs : a.eval s = .slice (some ⟨g, 0, none⟩) 0 0) (hown : w.ownsRow base e size (.slice (some ⟨g, 0, none⟩) 0 0) 0 [])
 (vx : Value) (m : Nat) (hvx : ∃ y c, vx = .slice y m c) (hP : Plain vx) (news : List Value) (hx : a.eval x = vx) (hl : news.length = m * size) (hnews : ∀ ad c, vx = .slice (some ad) m c → ∀ j u, news[j]? = some u → w.cell? (ad.add j) = some u) (h1 : ∀ u ∈ news, u.oneCell' = true)
 (h63 : m ≤ maxLen) (hbytes : m * bytes ≤ 140737488355328) (hbase : base ≤ w.heap.size)
 (h : ∀ v' w', w'.ownsRow base e size v' m news → Below w.heap.size w w' → wpList P ops Q rest (a.put o.dst v') w') : wpList P ops Q (o :: rest) a w := by
 obtain ⟨y, c, rfl⟩ := hvx
 rcases hP with hn | ⟨ad, mm, cc, he⟩
 · simp only [Value.slice.injEq] at hn
   obtain ⟨rfl, rfl, rfl⟩ := hn
   have hnil : news = [] := List.eq_nil_of_length_eq_zero (by rw [hl]; simp)
   subst hnil
   refine wpList_append_own_none hgd s x t ho base e i size ht hi _ 0 [] hs hown hx ?_
   exact h _ w hown (Below.refl _ _)
 · simp only [Value.slice.injEq] at he
   obtain ⟨rfl, rfl, rfl⟩ := he
   by_cases hm : m = 0
   · subst hm
     have hnil : news = [] := List.eq_nil_of_length_eq_zero (by rw [hl]; simp)
     subst hnil
     refine wpList_plain hgd fun K hK' => ?_
     have hrun := run_append_room_cells (P := P) w t o.type e i ht hi g 0 0 0 ad 0 c [] (by simp) (fun j u hj => by simp at hj) (fun u hu => by cases hu) (Nat.le_refl _) (fun j hj => by simp at hj) (fun j hj => by simp at hj)
     unfold Oper.wp
     simp [execOp, ho, resolve, invoke, builtin, hs, hx, hrun, Result.andThen]
     exact hK' _ _ (h _ w hown (Below.refl _ _))
   · refine wpList_append_grows w hgd s x t ho e i z size bytes ht hi hz hsize hby hzs hsz (some ⟨g, 0, none⟩) 0 0 [] hs (fun e => by cases e) (by simp) (fun b _ j u hj => by simp at hj) ad m c news hx hl (hnews ad c rfl) h1 (by omega) (by omega) (by simpa using hbytes) ?_
     intro v' w' h2 h3
     exact h v' w' (by simpa using owns_more h2 hbase) (gBelow h3)
end Go.Proofs.YteclpblfleakhaaGreatDoor.Plan
namespace Go.Proofs.YteclpblfleakhaaGreatDoor.Plan
open Go.RowKit Go.Sort Go.Proofs.YteclpblfleakhaaGreatDoor.Mem Go.Proofs.YteclpblfleakhaaGreatDoor.Route Go.Proofs.YteclpblfleakhaaGreatDoor.When Go.Proofs.YteclpblfleakhaaGreatDoor.Load Go.Proofs.YteclpblfleakhaaGreatDoor.Feas Go.Proofs.YteclpblfleakhaaGreatDoor.Order
set_option linter.unusedVariables false
def newE (vs : List Vh) (t : List Rq) : Int := if vs.length < 1 ∨ 4 < vs.length then 11 else if (vs.any fun v => decide (v.chk ≠ 0)) then 2 else if (t.any fun q => decide (q.chk ≠ 0)) then 2 else 0
theorem newE_count {vs : List Vh} {t : List Rq} (h : vs.length < 1 ∨ 4 < vs.length) : newE vs t = 11 := by unfold newE; rw [if_pos h]
theorem newE_veh {vs : List Vh} {t : List Rq} (h : ¬ (vs.length < 1 ∨ 4 < vs.length)) {v : Vh} (hv : v ∈ vs) (hc : v.chk ≠ 0) : newE vs t = 2 := by
 unfold newE
 rw [if_neg h, if_pos]
 exact List.any_eq_true.2 ⟨v, hv, by simpa using hc⟩
theorem newE_req {vs : List Vh} {t : List Rq} (h : ¬ (vs.length < 1 ∨ 4 < vs.length)) {q : Rq} (hq : q ∈ t) (hc : q.chk ≠ 0) : newE vs t = 2 := by
 unfold newE
 rw [if_neg h]
 split
 · rfl
 · rw [if_pos]
   exact List.any_eq_true.2 ⟨q, hq, by simpa using hc⟩
theorem newE_ok {vs : List Vh} {t : List Rq} (h : ¬ (vs.length < 1 ∨ 4 < vs.length)) (hv : ∀ v ∈ vs, v.chk = 0) (hq : ∀ q ∈ t, q.chk = 0) : newE vs t = 0 := by
 unfold newE
 rw [if_neg h, if_neg, if_neg]
 · rw [List.any_eq_true]; rintro ⟨q, h1, h2⟩; simp [hq q h1] at h2
 · rw [List.any_eq_true]; rintro ⟨q, h1, h2⟩; simp [hv q h1] at h2
theorem info_stops : (Tryz.prog.info? 28).map (fun i => (i.zero, i.size, i.bytes)) = some (some (.slice none 0 0), 1, 24) := by kernel_rfl
theorem at_ne {W : World} {g h : Nat} {t t' : TypeId} {cs cs' : Array Value} (h1 : At W g t cs) (h2 : W.heap[h]? = some (.cells cs' t' (0, 0))) (hne : t ≠ t') : g ≠ h := by
 rintro rfl
 have e := h1.symm.trans h2
 simp only [Option.some.injEq, Obj.cells.injEq] at e
 exact hne e.2.1
theorem own_ne {W : World} {b1 b2 s1 s2 n1 n2 : Nat} {t t' : TypeId} {v v' : Value} {xs xs' : List Value} (h1 : W.ownsRow b1 t s1 v n1 xs) (h2 : W.ownsRow b2 t' s2 v' n2 xs') (hne : t ≠ t') : ∀ g, v.ownBlock = some g → v'.ownBlock ≠ some g := by
 intro g e1 e2
 obtain ⟨-, ⟨rfl, -⟩ | ⟨g1, c1, cur1, rfl, -, hg1, -⟩⟩ := h1
 · cases e1
 obtain ⟨-, ⟨rfl, -⟩ | ⟨g2, c2, cur2, rfl, -, hg2, -⟩⟩ := h2
 · cases e2
 simp only [Value.ownBlock, Option.some.injEq] at e1 e2
 exact at_ne (show At W _ t cur1 from hg1) hg2 hne (e1.trans e2.symm)
theorem own_at_ne {W : World} {b2 s2 n2 p : Nat} {t t' : TypeId} {v' : Value} {cs : Array Value} {xs' : List Value} (h1 : At W p t cs) (h2 : W.ownsRow b2 t' s2 v' n2 xs') (hne : t ≠ t') : v'.ownBlock ≠ some p := by
 intro e2
 obtain ⟨-, ⟨rfl, -⟩ | ⟨g2, c2, cur2, rfl, -, hg2, -⟩⟩ := h2
 · cases e2
 simp only [Value.ownBlock, Option.some.injEq] at e2
 exact at_ne h1 hg2 hne e2.symm
theorem new_no {vs : List Vh} {t : List Rq} {E : Int} (h : newE vs t = E) (h0 : E ≠ 0) {A : Prop} : (newE vs t ≠ 0 → Ending.returned (.tuple #[.pointer none, .int .i64 E]) = .returned (.tuple #[.pointer none, .int .i64 (newE vs t)])) ∧ (newE vs t = 0 → A) :=
 ⟨fun _ => by rw [h], fun h2 => absurd (h.symm.trans h2) h0⟩
end Go.Proofs.YteclpblfleakhaaGreatDoor.Plan
namespace Go.Proofs.YteclpblfleakhaaGreatDoor.Plan
open Go.RowKit Go.Proofs.YteclpblfleakhaaGreatDoor.Mem
set_option linter.unusedVariables false
def VV (ks : List (Option Value)) (i : Nat) (v : Value) (_ : World) : Prop := ∀ u, ks[i]? = some (some u) → v = u
theorem VV.keep {ks : List (Option Value)} {i : Nat} {v : Value} {W V : World} (h : VV ks i v W) : VV ks i v V := h
theorem VV.eq {ks : List (Option Value)} {i : Nat} {v u : Value} {W : World} (h : VV ks i v W) (e : ks[i]? = some (some u)) : v = u := h u e
theorem VV.val {ks : List (Option Value)} {i : Nat} {v u : Value} {W : World} (e : ks[i]? = some (some u)) (h : v = u) : VV ks i v W := fun u' h' => by rw [e] at h'; cases h'; exact h
theorem VV.any {ks : List (Option Value)} {i : Nat} {v : Value} {W : World} (e : ks[i]? = some none) : VV ks i v W := fun u' h' => by rw [e] at h'; cases h'
theorem mark_ne {d : Nat → Bool} {k i : Nat} (h : i ≠ k) : Sched.mark d k i = d i := by simp [Sched.mark, h]
theorem mark_eq {d : Nat → Bool} {k : Nat} : Sched.mark d k k = true := by simp [Sched.mark]
theorem upd_ne {ys : Nat → Value} {k i : Nat} {v : Value} (h : i ≠ k) : Sched.upd ys k v i = ys i := by simp [Sched.upd, h]
theorem upd_eq {ys : Nat → Value} {k : Nat} {v : Value} : Sched.upd ys k v k = v := by simp [Sched.upd]
def bptr (g : Nat) : Value := .pointer (some ⟨g, 0, none⟩)
structure ZP (a s M : Nat) (T : TypeId) (x0 x1 x2 : Value) (done : Nat → Bool) (ys : Nat → Value) (W : World) : Prop where
 o : done s = true → done a = true
 p : done a = true → ∃ (g : Nat) (c0 c1 c2 : Value), ys a = bptr g ∧ M ≤ g ∧ At W g T #[c0, c1, c2] ∧ (done s = true → c0 = x0 ∧ c1 = x1 ∧ c2 = x2)
section
variable {a s M : Nat} {T : TypeId} {x0 x1 x2 : Value} {done : Nat → Bool} {ys : Nat → Value} {W W' : World}
theorem ZP.start (ys : Nat → Value) (W : World) : ZP a s M T x0 x1 x2 (fun _ => false) ys W := ⟨fun h => (by cases h), fun h => (by cases h)⟩
theorem ZP.light {k : Nat} {v : Value} (h : ZP a s M T x0 x1 x2 done ys W) (hk : a ≠ k) (hs : s ≠ k) (hb : Below W.heap.size W W') : ZP a s M T x0 x1 x2 (Sched.mark done k) (Sched.upd ys k v) W' := by
 refine ⟨?_, ?_⟩
 · rw [mark_ne hk, mark_ne hs]; exact h.o
 · rw [mark_ne hk, mark_ne hs, upd_ne hk]
   intro h1
   obtain ⟨g, c0, c1, c2, h2, h3, h4, h5⟩ := h.p h1
   exact ⟨g, c0, c1, c2, h2, h3, h4.keep hb h4.inside, h5⟩
theorem ZP.new {z0 z1 z2 : Value} (h : ZP a s M T x0 x1 x2 done ys W) (hn : done a = false) (hs : s ≠ a) (hM : M ≤ W.heap.size) : ZP a s M T x0 x1 x2 (Sched.mark done a) (Sched.upd ys a (bptr W.heap.size)) (W.alloc (.cells #[z0, z1, z2] T)) := by
 refine ⟨fun _ => mark_eq, fun _ => ⟨W.heap.size, z0, z1, z2, upd_eq, hM, At.new _ _ _, fun h8 => ?_⟩⟩
 rw [mark_ne hs] at h8
 have := h.o h8
 rw [hn] at this; cases this
theorem ZP.put {g : Nat} {c0 c1 c2 v : Value} (h : ZP a s M T x0 x1 x2 done ys W) (h6 : done a = true) (hs : a ≠ s) (e : ys a = bptr g) (hN : M ≤ g) (hA : At W g T #[c0, c1, c2]) :
 ZP a s M T x0 x1 x2 (Sched.mark done s) (Sched.upd ys s v) (((W.setCell ⟨g, 0, none⟩ x0).setCell ⟨g, 1, none⟩ x1).setCell ⟨g, 2, none⟩ x2) := by
 refine ⟨fun _ => by rw [mark_ne hs]; exact h6, fun _ => ⟨g, x0, x1, x2, by rw [upd_ne hs]; exact e, hN, by simpa using ((hA.put 0 x0).put 1 x1).put 2 x2, fun _ => ⟨rfl, rfl, rfl⟩⟩⟩
theorem ZP.get (h : ZP a s M T x0 x1 x2 done ys W) (h6 : done s = true) : ∃ g, ys a = bptr g ∧ M ≤ g ∧ At W g T #[x0, x1, x2] := by
 obtain ⟨g, c0, c1, c2, h2, h3, h4, h5⟩ := h.p (h.o h6)
 obtain ⟨rfl, rfl, rfl⟩ := h5 h6
 exact ⟨g, h2, h3, h4⟩
end
inductive KnC (G : Nat → Prop) where
 | val (u : Value)
 | of (p : Value → World → Prop) (hp : ∀ {v w w'}, p v w → Chg G w w' → p v w')
 | any
def KnC.holds {G : Nat → Prop} : KnC G → Value → World → Prop
 | .val u, v, _ => v = u
 | .of p _, v, w => p v w
 | .any, _, _ => True
def VC {G : Nat → Prop} (ks : List (KnC G)) (i : Nat) (v : Value) (w : World) : Prop := ∀ k, ks[i]? = some k → k.holds v w
section
variable {G : Nat → Prop} {ks : List (KnC G)} {i : Nat} {u v : Value} {w w' : World}
theorem VC.keep (h : VC ks i v w) (hb : Chg G w w') : VC ks i v w' := fun k hk => by
 have h1 := h k hk
 cases k with
 | val u => exact h1
 | of p hp => exact hp h1 hb
 | any => trivial
theorem VC.val (h : ks[i]? = some (.val u)) (e : v = u) : VC ks i v w := fun k hk => by rw [h] at hk; cases hk; exact e
theorem VC.of {p : Value → World → Prop} {hp : ∀ {v w w'}, p v w → Chg G w w' → p v w'} (h : ks[i]? = some (.of p hp)) (e : p v w) : VC ks i v w := fun k hk => by rw [h] at hk; cases hk; exact e
theorem VC.any (h : ks[i]? = some .any) : VC ks i v w := fun k hk => by rw [h] at hk; cases hk; trivial
theorem VC.eq (hV : VC ks i v w) (h : ks[i]? = some (.val u)) : v = u := hV _ h
theorem VC.get {p : Value → World → Prop} {hp : ∀ {v w w'}, p v w → Chg G w w' → p v w'} (hV : VC ks i v w) (h : ks[i]? = some (.of p hp)) : p v w := hV _ h
end
structure ZQ (s n : Nat) (P0 P1 : World → Prop) (done : Nat → Bool) (W : World) : Prop where
 o : done s = true → ∀ i, i < n → done i = true
 a : done s = false → P0 W
 b : done s = true → P1 W
section
variable {s n : Nat} {P0 P1 : World → Prop} {done : Nat → Bool} {W W' : World}
theorem ZQ.start (h : P0 W) : ZQ s n P0 P1 (fun _ => false) W := ⟨fun h => (by cases h), fun _ => h, fun h => (by cases h)⟩
theorem ZQ.light {k : Nat} (h : ZQ s n P0 P1 done W) (hs : s ≠ k) (h0 : P0 W → P0 W') (h1 : P1 W → P1 W') : ZQ s n P0 P1 (Sched.mark done k) W' := by
 refine ⟨?_, ?_, ?_⟩
 · rw [mark_ne hs]
   intro hd i hi
   have := h.o hd i hi
   unfold Sched.mark
   split
   · rfl
   · exact this
 · rw [mark_ne hs]; exact fun hd => h0 (h.a hd)
 · rw [mark_ne hs]; exact fun hd => h1 (h.b hd)
theorem ZQ.put (hs : n ≤ s) (hall : ∀ i, i < n → done i = true) (h : P1 W') : ZQ s n P0 P1 (Sched.mark done s) W' := by
 refine ⟨fun _ i hi => ?_, fun hd => ?_, fun _ => h⟩
 · rw [mark_ne (by omega)]; exact hall i hi
 · rw [mark_eq] at hd; cases hd
theorem ZQ.fst {k : Nat} (h : ZQ s n P0 P1 done W) (hk : k < n) (hn : done k = false) : P0 W := h.a (by
 cases hd : done s
 · rfl
 · have := h.o hd k hk; rw [hn] at this; cases this)
end
end Go.Proofs.YteclpblfleakhaaGreatDoor.Plan
namespace Go.Proofs.YteclpblfleakhaaGreatDoor.Plan
open Go.RowKit Go.Sort Go.Proofs.YteclpblfleakhaaGreatDoor.Mem Go.Proofs.YteclpblfleakhaaGreatDoor.Route Go.Proofs.YteclpblfleakhaaGreatDoor.When Go.Proofs.YteclpblfleakhaaGreatDoor.Load Go.Proofs.YteclpblfleakhaaGreatDoor.Ins Go.Proofs.YteclpblfleakhaaGreatDoor.Cheap Go.Proofs.YteclpblfleakhaaGreatDoor.Feas
set_option linter.unusedVariables false
theorem ret_price {a b c d e f : Int} (h : a = b) (h2 : c = d) (h3 : e = f) : Ending.returned (.tuple #[.int .i64 a, .int .i64 c, .int .i64 e]) = .returned (.tuple #[.int .i64 b, .int .i64 d, .int .i64 f]) := by rw [h, h2, h3]
theorem ret_put2 {a b c d : Int} (h : a = b) (h2 : c = d) : Ending.returned (.tuple #[.int .i64 a, .int .i64 c]) = .returned (.tuple #[.int .i64 b, .int .i64 d]) := by rw [h, h2]
end Go.Proofs.YteclpblfleakhaaGreatDoor.Plan
namespace Go.Proofs.YteclpblfleakhaaGreatDoor.Plan
open Go.RowKit Go.Proofs.YteclpblfleakhaaGreatDoor.Mem Go.Proofs.YteclpblfleakhaaGreatDoor.Route Go.Proofs.YteclpblfleakhaaGreatDoor.When Go.Proofs.YteclpblfleakhaaGreatDoor.Load Go.Proofs.YteclpblfleakhaaGreatDoor.Ins
set_option linter.unusedVariables false
structure Grew (D D' : Nat → Prop) (W W' : World) : Prop where
 up : ∀ k, D k → D' k
 new : ∀ k, D' k → D k ∨ W.heap.size ≤ k
 lt : ∀ k, D' k → k < W'.heap.size
theorem Grew.same {D : Nat → Prop} {W W' : World} (h : ∀ k, D k → k < W.heap.size) (hs : W.heap.size ≤ W'.heap.size) : Grew D D W W' := ⟨fun _ h => h, fun _ h => .inl h, fun k hd => Nat.lt_of_lt_of_le (h k hd) hs⟩
def RwsO (M : Nat) (W : World) (v : Value) (us : List Value) (ls : List (List (Int × Int))) : Prop :=
 W.ownsRow M 28 1 v ls.length us ∧ ∀ (i : Nat) u l, us[i]? = some u → ls[i]? = some l → W.ownsRow M 82 2 u l.length (flatS l)
theorem RwsO.rws {M : Nat} {W : World} {v : Value} {us : List Value} {ls : List (List (Int × Int))} (h : RwsO M W v us ls) : Rws W.heap.size W v ls := by
 have hl : us.length = ls.length := by have := h.1.1; omega
 refine ⟨us, hl, ?_, fun i u l hu hl2 => Row.of_owns (h.2 i u l hu hl2) rfl (Nat.le_refl _)⟩
 exact RowB.of_owns (by have := h.1; rwa [show us = (us.map fun u => [u]).flatten by simp [List.flatten_eq_flatMap, List.flatMap_map]] at this) (by simp [hl]) (fun r hr => by obtain ⟨s, _, rfl⟩ := List.mem_map.1 hr; rfl) (Nat.le_refl _)
def tourV (v : Vh) (u : Value) : List Value := [.int .i64 v.hx, .int .i64 v.hy, .int .i64 v.cp, .int .i64 v.st, .int .i64 v.en, u]
def toursF : List Vh → List Value → List Value
 | v :: vs, u :: us => tourV v u ++ toursF vs us
 | _, _ => []
theorem toursF_get : ∀ {vs : List Vh} {us : List Value} {i : Nat} {v : Vh} {u : Value}, vs[i]? = some v → us[i]? = some u → ∀ k x, (tourV v u)[k]? = some x → (toursF vs us)[i * 6 + k]? = some x
 | [], _, i, v, u, h, _, _, _, _ => by simp at h
 | _ :: _, [], i, v, u, _, h, _, _, _ => by simp at h
 | v0 :: vs, u0 :: us, 0, v, u, hv, hu, k, x, hk => by
  simp at hv hu
  subst hv; subst hu
  have hl : k < (tourV v0 u0).length := (List.getElem?_eq_some_iff.1 hk).1
  show (tourV v0 u0 ++ toursF vs us)[0 * 6 + k]? = some x
  rw [Nat.zero_mul, Nat.zero_add, List.getElem?_append_left hl]
  exact hk
 | v0 :: vs, u0 :: us, i + 1, v, u, hv, hu, k, x, hk => by
  simp at hv hu
  have := toursF_get hv hu k x hk
  show (tourV v0 u0 ++ toursF vs us)[(i + 1) * 6 + k]? = some x
  rw [List.getElem?_append_right (by simp [tourV]; omega)]
  have e : (i + 1) * 6 + k - (tourV v0 u0).length = i * 6 + k := by simp [tourV]; omega
  rw [e]
  exact this
theorem toursF_set : ∀ {vs : List Vh} {us : List Value} {i : Nat} (u : Value), i < vs.length → i < us.length → (toursF vs us).set (i * 6 + 5) u = toursF vs (us.set i u)
 | [], _, i, u, h, _ => by simp at h
 | _ :: _, [], i, u, _, h => by simp at h
 | v0 :: vs, u0 :: us, 0, u, _, _ => by simp [toursF, tourV]
 | v0 :: vs, u0 :: us, i + 1, u, hv, hu => by
  have := toursF_set (vs := vs) (us := us) (i := i) u (by simpa using hv) (by simpa using hu)
  show (tourV v0 u0 ++ toursF vs us).set ((i + 1) * 6 + 5) u = tourV v0 u0 ++ toursF vs (us.set i u)
  rw [← this, List.set_append_right _ _ (by simp [tourV]; omega)]
  have e : (i + 1) * 6 + 5 - (tourV v0 u0).length = i * 6 + 5 := by simp [tourV]; omega
  rw [e]
theorem toursF_snoc : ∀ {vs : List Vh} {us : List Value} (v : Vh) (u : Value), us.length = vs.length → toursF (vs ++ [v]) (us ++ [u]) = toursF vs us ++ tourV v u
 | [], [], v, u, _ => by simp [toursF]
 | [], _ :: _, _, _, h => by simp at h
 | _ :: _, [], _, _, h => by simp at h
 | v0 :: vs, u0 :: us, v, u, h => by
  have := toursF_snoc (vs := vs) (us := us) v u (by simpa using h)
  simp [toursF, this]
def whO (S : St) (r : Int) : Option Int := if 0 ≤ whereV S.rows r then some (whereV S.rows r) else none
theorem whO_some {S : St} {r : Int} (h : 0 ≤ whereV S.rows r) : whO S r = some (whereV S.rows r) := if_pos h
theorem whO_none {S : St} {r : Int} (h : ¬ 0 ≤ whereV S.rows r) : whO S r = none := if_neg h
theorem whO_is {S : St} {r : Int} : (whO S r).isSome = true ↔ 0 ≤ whereV S.rows r := by
 unfold whO
 split
 · rename_i h; simpa using h
 · rename_i h
   simp only [Option.isSome_none, Bool.false_eq_true, false_iff]
   exact h
theorem Ok.inT {S : St} (h : Ok S) {r : Int} (hw : 0 ≤ whereV S.rows r) : 0 ≤ r ∧ r < S.t.length := by
 obtain ⟨i, l, e, h1, h2, -⟩ := where_some hw
 have hi : i < S.vs.length := by rw [← h.len]; exact (List.getElem?_eq_some_iff.1 h1).1
 have hd := (h.dr i S.vs[i] l (List.getElem?_eq_getElem hi) h1).1
 have : ∃ s ∈ l, s.1 = r := by
  apply Classical.byContradiction
  intro hc
  have := noR_iff (r := r) (l := l).2 (fun s hs e => hc ⟨s, hs, e⟩)
  rw [this] at h2; cases h2
 obtain ⟨s, hs, rfl⟩ := this
 exact ⟨((isR_iff.1 hd.hl) s hs).1, hd.hr s hs⟩
theorem whO_in {S : St} (h : Ok S) : ∀ r, (whO S r).isSome = true → 0 ≤ r ∧ r < (1000 : Nat) := fun r hr => by
 have h1 := h.inT (whO_is.1 hr)
 have := h.tl
 omega
theorem whO_tight {S : St} (h : Ok S) {W : World} {b n : Nat} (hm : MapAt W b n (whO S)) : MapAt W b 1000 (whO S) := map_tight hm (whO_in h)
structure ProgAt (D G : Nat → Prop) (W : World) (p gt gm : Nat) (vt : Value) (cap : Nat) (us : List Value) (S : St) : Prop where
 box : At W p 78 #[.slice (some ⟨gt, 0, none⟩) S.vs.length cap, vt, .map (some gm)]
 t : RowD D W vt 10 (S.t.map rqV)
 own : W.ownsRow 0 74 6 (.slice (some ⟨gt, 0, none⟩) S.vs.length cap) S.vs.length (toursF S.vs us)
 ulen : us.length = S.vs.length
 rows : ∀ (i : Nat) u l, us[i]? = some u → S.rows[i]? = some l → RowD D W u 2 (l.map stV)
 map : MapAt W gm 1000 (whO S)
 pd : ¬ D p
 gT : G gt
 gM : G gm
 sub : ∀ k, G k → D k
 lt : ∀ k, D k → k < W.heap.size
section
variable {D G : Nat → Prop} {W W' : World} {p gt gm : Nat} {vt : Value} {cap : Nat} {us : List Value} {S : St}
theorem ProgAt.chg {E : Nat → Prop} (h : ProgAt D G W p gt gm vt cap us S) (hc : Chg E W W') (hE : ∀ k, E k → D k ∧ ¬ G k) : ProgAt D G W' p gt gm vt cap us S :=
 ⟨hc.at_ h.box (fun he => h.pd (hE p he).1), h.t.chg hc (fun k he => (hE k he).1), hc.owns h.own (fun g e he => by simp [Value.ownBlock] at e; exact (hE g he).2 (e ▸ h.gT)), h.ulen,
  fun i u l hu hl => (h.rows i u l hu hl).chg hc (fun k he => (hE k he).1), h.map.same (hc.block gm h.map.inside (fun he => (hE gm he).2 h.gM)), h.pd, h.gT, h.gM, h.sub, fun k hd => Nat.lt_of_lt_of_le (h.lt k hd) hc.size⟩
theorem ProgAt.grow {D' : Nat → Prop} (h : ProgAt D G W p gt gm vt cap us S) (hb : Below W.heap.size W W') (hg : Grew D D' W W') : ProgAt D' G W' p gt gm vt cap us S := by
 have h1 := h.chg (E := fun _ => False) (Chg.of_below hb) (fun k he => he.elim)
 have hm : ∀ {v : Value} {m : Nat} {rows : List (List Value)}, RowD D W v m rows → RowD D' W' v m rows := fun hr => (hr.more (fun k hk => hg.new k hk)).chg (E := fun _ => False) (Chg.of_below hb) (fun k he => he.elim)
 have hp := h.box.inside
 exact ⟨h1.box, hm h.t, h1.own, h.ulen, fun i u l hu hl => hm (h.rows i u l hu hl), h1.map, fun hd => (hg.new p hd).elim h.pd (fun hk => by omega), h.gT, h.gM, fun k hk => hg.up k (h.sub k hk), hg.lt⟩
theorem ProgAt.on (h : ProgAt D G W p gt gm vt cap us S) (hb : Below W.heap.size W W') : ProgAt D G W' p gt gm vt cap us S := h.chg (E := fun _ => False) (Chg.of_below hb) (fun k he => he.elim)
theorem ProgAt.gtIn (h : ProgAt D G W p gt gm vt cap us S) : gt < W.heap.size := (World.ownsRow.lt h.own gt rfl).2
theorem ProgAt.bd (h : ProgAt D G W p gt gm vt cap us S) : S.vs.length ≤ cap ∧ cap ≤ maxLen := by
 obtain ⟨hl, ⟨h1, _⟩ | ⟨g, c, cur, e, hb, hg, hc1, hc2, hs, ht⟩⟩ := h.own
 · cases h1
 · cases e; exact ⟨hc1, hc2⟩
theorem ProgAt.cells (h : ProgAt D G W p gt gm vt cap us S) {i : Nat} {v : Vh} (hv : S.vs[i]? = some v) : ∃ u, us[i]? = some u ∧
 W.cell? ⟨gt, i * 6, none⟩ = some (.int .i64 v.hx) ∧ W.cell? ⟨gt, i * 6 + 1, none⟩ = some (.int .i64 v.hy) ∧ W.cell? ⟨gt, i * 6 + 2, none⟩ = some (.int .i64 v.cp) ∧ W.cell? ⟨gt, i * 6 + 3, none⟩ = some (.int .i64 v.st) ∧ W.cell? ⟨gt, i * 6 + 4, none⟩ = some (.int .i64 v.en) ∧ W.cell? ⟨gt, i * 6 + 5, none⟩ = some u := by
 have hi := (List.getElem?_eq_some_iff.1 hv).1
 have hu : us[i]? = some (us[i]'(by rw [h.ulen]; exact hi)) := List.getElem?_eq_getElem _
 refine ⟨_, hu, ?_⟩
 have hc : ∀ k x, k < 6 → (tourV v (us[i]'(by rw [h.ulen]; exact hi)))[k]? = some x → W.cell? ⟨gt, i * 6 + k, none⟩ = some x := fun k x hk hx => by
  rw [h.own.cellAt (i * 6 + k) (by omega)]
  exact toursF_get hv hu k x hx
 exact ⟨hc 0 _ (by decide) rfl, hc 1 _ (by decide) rfl, hc 2 _ (by decide) rfl, hc 3 _ (by decide) rfl, hc 4 _ (by decide) rfl, hc 5 _ (by decide) rfl⟩
theorem ProgAt.set (h : ProgAt D G W p gt gm vt cap us S) {i : Nat} (hi : i < S.vs.length) {u : Value} {m : List (Int × Int)} (hm : RowD D W u 2 (m.map stV)) (hr : S.rows.length = S.vs.length) :
 At (W.setCell ⟨gt, i * 6 + 5, none⟩ u) p 78 #[.slice (some ⟨gt, 0, none⟩) S.vs.length cap, vt, .map (some gm)] ∧ RowD D (W.setCell ⟨gt, i * 6 + 5, none⟩ u) vt 10 (S.t.map rqV) ∧
 (W.setCell ⟨gt, i * 6 + 5, none⟩ u).ownsRow 0 74 6 (.slice (some ⟨gt, 0, none⟩) S.vs.length cap) S.vs.length (toursF S.vs (us.set i u)) ∧
 (∀ (j : Nat) u' l, (us.set i u)[j]? = some u' → (S.rows.set i m)[j]? = some l → RowD D (W.setCell ⟨gt, i * 6 + 5, none⟩ u) u' 2 (l.map stV)) ∧
 (gt ≠ gm → MapAt (W.setCell ⟨gt, i * 6 + 5, none⟩ u) gm 1000 (whO S)) := by
 have hc : Chg (fun k => k = gt) W (W.setCell ⟨gt, i * 6 + 5, none⟩ u) := Chg.set (D := fun k => k = gt) W (g := gt) rfl (i * 6 + 5) u
 have hE : ∀ k, k = gt → D k := fun k e => by rw [e]; exact h.sub _ h.gT
 have hlu : i < us.length := by rw [h.ulen]; exact hi
 refine ⟨hc.at_ h.box (fun e => h.pd (hE _ e)), h.t.chg hc hE, ?_, ?_, fun hne => h.map.same (hc.block gm h.map.inside (fun e => hne e.symm))⟩
 · have := (h.own.stored (i * 6 + 5) u).1
   rw [toursF_set u hi hlu] at this
   exact this
 · intro j u' l' hu' hl'
   rcases set_get hlu hu' with ⟨rfl, rfl⟩ | ⟨hj, h1⟩
   · rcases set_get (by rw [hr]; exact hi) hl' with ⟨_, rfl⟩ | ⟨h2, _⟩
     · exact hm.chg hc hE
     · exact absurd rfl h2
   · rcases set_get (by rw [hr]; exact hi) hl' with ⟨h2, _⟩ | ⟨_, h2⟩
     · exact absurd h2 hj
     · exact (h.rows j u' l' h1 h2).chg hc hE
end
theorem map_ne {W : World} {g b n : Nat} {t : TypeId} {cs : Array Value} {f : Int → Option Int} (h1 : W.heap[g]? = some (.cells cs t (0, 0))) (h2 : MapAt W b n f) : g ≠ b := by
 rintro rfl
 obtain ⟨D, ⟨es, clock, hb, _⟩, _⟩ := h2
 have e := h1.symm.trans hb
 cases e
theorem own_map_ne {W : World} {base size n b m : Nat} {t : TypeId} {v : Value} {xs : List Value} {f : Int → Option Int} (h1 : W.ownsRow base t size v n xs) (h2 : MapAt W b m f) : v.ownBlock ≠ some b := by
 intro e2
 obtain ⟨-, ⟨rfl, -⟩ | ⟨g2, c2, cur2, rfl, -, hg2, -⟩⟩ := h1
 · cases e2
 simp only [Value.ownBlock, Option.some.injEq] at e2
 exact map_ne hg2 h2 e2
def PlanAt (D G : Nat → Prop) (W : World) (p : Nat) (S : St) : Prop := ∃ (gt gm : Nat) (vt : Value) (cap : Nat) (us : List Value), ProgAt D G W p gt gm vt cap us S
theorem PlanAt.chg {D G E : Nat → Prop} {W W' : World} {p : Nat} {S : St} (h : PlanAt D G W p S) (hc : Chg E W W') (hE : ∀ k, E k → D k ∧ ¬ G k) : PlanAt D G W' p S := by
 obtain ⟨gt, gm, vt, cap, us, h⟩ := h
 exact ⟨gt, gm, vt, cap, us, h.chg hc hE⟩
theorem PlanAt.grow {D D' G : Nat → Prop} {W W' : World} {p : Nat} {S : St} (h : PlanAt D G W p S) (hb : Below W.heap.size W W') (hg : Grew D D' W W') : PlanAt D' G W' p S := by
 obtain ⟨gt, gm, vt, cap, us, h⟩ := h
 exact ⟨gt, gm, vt, cap, us, h.grow hb hg⟩
theorem PlanAt.sub {D G : Nat → Prop} {W : World} {p : Nat} {S : St} (h : PlanAt D G W p S) : ∀ k, G k → D k := by
 obtain ⟨gt, gm, vt, cap, us, h⟩ := h
 exact h.sub
theorem PlanAt.lt {D G : Nat → Prop} {W : World} {p : Nat} {S : St} (h : PlanAt D G W p S) : ∀ k, D k → k < W.heap.size := by
 obtain ⟨gt, gm, vt, cap, us, h⟩ := h
 exact h.lt
theorem ProgAt.made {M : Nat} {W : World} {p gt gm n : Nat} {vt : Value} {cap : Nat} {us : List Value} {S : St} (hp : At W p 78 #[.slice (some ⟨gt, 0, none⟩) S.vs.length cap, vt, .map (some gm)]) (hpM : M ≤ p)
 (ht : W.ownsRow M 43 10 vt S.t.length (flatQ S.t)) (ho : W.ownsRow M 74 6 (.slice (some ⟨gt, 0, none⟩) S.vs.length cap) S.vs.length (toursF S.vs us)) (hl : us.length = S.vs.length)
 (hr : ∀ (i : Nat) u l, us[i]? = some u → S.rows[i]? = some l → W.ownsRow M 82 2 u l.length (flatS l)) (hm : MapAt W gm n (whO S)) (hmM : M ≤ gm) (hn : n ≤ 1000)
 {D : Nat → Prop} (hD : ∀ k, D k → k = gt ∨ k = gm ∨ k < M) (hT : D gt) (hMm : D gm) : ProgAt D (fun k => k = gt ∨ k = gm) W p gt gm vt cap us S := by
 have hgt := World.ownsRow.lt ho gt rfl
 have off : ∀ {v : Value} {e : TypeId} {size n : Nat} {xs : List Value}, W.ownsRow M e size v n xs → e ≠ 74 → Off D v := fun h1 hne g e hd => by
  rcases hD g hd with rfl | rfl | hk
  · exact own_ne h1 ho hne g e rfl
  · exact own_map_ne h1 hm e
  · have := (World.ownsRow.lt h1 g e).1; omega
 refine ⟨hp, ⟨RowB.of_owns ht (by simp) (fun r hr => by obtain ⟨s, _, rfl⟩ := List.mem_map.1 hr; rfl) (Nat.le_refl _), fun _ => off ht (by decide)⟩, owns_more ho (Nat.zero_le _), hl, fun i u l hu hl2 => ⟨Row.of_owns (hr i u l hu hl2) rfl (Nat.le_refl _), fun _ => off (hr i u l hu hl2) (by decide)⟩, hm.more hn, fun hd => ?_, .inl rfl, .inr rfl, fun k hk => hk.elim (fun e => by rw [e]; exact hT) (fun e => by rw [e]; exact hMm), fun k hd => ?_⟩
 · rcases hD p hd with e | e | e
   · exact own_at_ne hp ho (by decide) (by rw [e]; rfl)
   · exact map_ne hp hm e
   · omega
 · rcases hD k hd with rfl | rfl | e
   · exact hgt.2
   · exact hm.inside
   · omega
end Go.Proofs.YteclpblfleakhaaGreatDoor.Plan

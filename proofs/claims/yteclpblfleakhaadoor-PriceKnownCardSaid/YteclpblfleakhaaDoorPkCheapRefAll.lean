import Derived.Test.YteclpblfleakhaaDoorPkInsWayOf
import Derived.Test.YteclpblfleakhaaDoorPkInsWith

namespace Go.Proofs.YteclpblfleakhaaDoor.Cheap
open Go.RowKit Go.Sort Go.Proofs.YteclpblfleakhaaDoor.Mem Go.Proofs.YteclpblfleakhaaDoor.Order Go.Proofs.YteclpblfleakhaaDoor.Route Go.Proofs.YteclpblfleakhaaDoor.When Go.Proofs.YteclpblfleakhaaDoor.Load Go.Proofs.YteclpblfleakhaaDoor.Ins
set_option linter.unusedVariables false
def wyC (y : Wy) : List Value := [.int .i64 y.i, .int .i64 y.j, .int .i64 y.n]
def flatW (l : List Wy) : List Value := (l.map wyC).flatten
def Wys (B : Nat) (W : World) (v : Value) (l : List Wy) : Prop := RowB B W v 3 (l.map wyC)
theorem Wys.of_owns {B : Nat} {W : World} {base n : Nat} {e : TypeId} {v : Value} {l : List Wy} (h : W.ownsRow base e 3 v n (flatW l)) (hn : n = l.length) (hB : W.heap.size ≤ B) : Wys B W v l :=
 RowB.of_owns h (by simpa using hn) (fun r hr => by obtain ⟨s, _, rfl⟩ := List.mem_map.1 hr; rfl) hB
theorem Wys.at {B : Nat} {W : World} {x : Option Addr} {n cap : Nat} {l : List Wy} (h : Wys B W (.slice x n cap) l) {k : Nat} {y : Wy} (hk : l[k]? = some y) :
 ∃ g o, x = some ⟨g, o, none⟩ ∧ g < B ∧ W.cell? ⟨g, o + k * 3, none⟩ = some (.int .i64 y.i) ∧ W.cell? ⟨g, o + k * 3 + 1, none⟩ = some (.int .i64 y.j) ∧ W.cell? ⟨g, o + k * 3 + 2, none⟩ = some (.int .i64 y.n) := by
 obtain ⟨g, o, e, hg, hc⟩ := RowB.row h (j := k) (r := wyC y) (by rw [List.getElem?_map, hk]; rfl)
 exact ⟨g, o, e, hg, hc 0 _ rfl, hc 1 _ rfl, hc 2 _ rfl⟩
theorem Wys.keep {B C : Nat} {W W' : World} {v : Value} {l : List Wy} (h : Wys B W v l) (hb : Below C W W') (hB : B ≤ C) : Wys B W' v l := RowB.keep h hb hB
theorem Wys.opened {B : Nat} {W : World} {v : Value} {t : List Wy} (h : Wys B W v t) : ∃ x N cap, v = .slice x N cap ∧ t.length = N ∧ N ≤ cap ∧ cap ≤ maxLen := by
 obtain ⟨x, cap, rfl, h1, h2, h0, _⟩ := h
 exact ⟨x, t.length, cap, by simp, rfl, by simpa using h1, h2⟩
end Go.Proofs.YteclpblfleakhaaDoor.Cheap
namespace Go.Proofs.YteclpblfleakhaaDoor.Plan
open Go.RowKit Go.Proofs.YteclpblfleakhaaDoor.Order Go.Proofs.YteclpblfleakhaaDoor.Place Go.Proofs.YteclpblfleakhaaDoor.Route Go.Proofs.YteclpblfleakhaaDoor.When Go.Proofs.YteclpblfleakhaaDoor.Load Go.Proofs.YteclpblfleakhaaDoor.Feas Go.Proofs.YteclpblfleakhaaDoor.Ins Go.Proofs.YteclpblfleakhaaDoor.Cheap
set_option linter.unusedVariables false
structure PutAt (S : St) (r : Int) (i : Nat) (v : Vh) (l m : List (Int × Int)) : Prop where
 idx : priceI S r = i
 vat : S.vs[i]? = some v
 lat : S.rows[i]? = some l
 best : bestE v l S.t r = 0
 rise : priceN S r = (bestW v l S.t r).n
 row : m = moreL l r (bestW v l S.t r).i (bestW v l S.t r).j
 may : mayW l r (bestW v l S.t r).i (bestW v l S.t r).j = true
 put : putS S r = { S with rows := S.rows.set i m }
 dr : Feas.Dr v m S.t
 err : errT v m S.t = 0
 fit : fitE v m S.t = 0
 nums : Nums m
 home : homeT v m S.t - homeT v l S.t = priceN S r
 back : woL r m = l
 len : l.length ≤ 14
theorem put_at {S : St} (h : Ok S) {r : Int} (hp : priceE S r = 0) : ∃ i v l m, PutAt S r i v l m := by
 obtain ⟨i, v, l, h1, h2, h3, h4, h5⟩ := price_at hp
 obtain ⟨b1, b2⟩ := best_in h4
 have hz := riseE_zero b1
 have hw := withE_zero hz.1
 obtain ⟨hd, he, hf, hn⟩ := h.dr i v l h2 h3
 have hpz := priceE_zero hp
 have hin := inT_iff.1 hpz.1
 refine ⟨i, v, l, _, h1, h2, h3, h4, h5, rfl, hw.2.2.2.2, putS_yes hp h1 h2 h3, moreDr hd hw.2.2.2.2 hin.2 hw.2.2.1, hz.2.2, hz.2.1, moreL_nums hn ?_, ?_, wo_with hw.2.2.2.2, hw.2.2.1⟩
 · have := h.tl
   exact ⟨by omega, by omega⟩
 · rw [h5, b2, riseV_ok b1]
theorem PutAt.rise_nn {S : St} {r : Int} {i : Nat} {v : Vh} {l m : List (Int × Int)} (h : PutAt S r i v l m) (he : errT v l S.t = 0) : 0 ≤ priceN S r := by
 have := less_home h.dr r h.err (by rw [h.back]; exact he)
 rw [h.back] at this
 have := h.home
 omega
theorem set_get {α : Type} {xs : List α} {i j : Nat} {x y : α} (hi : i < xs.length) (h : (xs.set i x)[j]? = some y) : (j = i ∧ y = x) ∨ (j ≠ i ∧ xs[j]? = some y) := by
 by_cases e : j = i
 · subst e
   rw [List.getElem?_set_self hi] at h
   exact .inl ⟨rfl, (Option.some.inj h).symm⟩
 · rw [List.getElem?_set_ne (fun e' => e e'.symm)] at h
   exact .inr ⟨e, h⟩
theorem Ok.set {S : St} (h : Ok S) {i : Nat} {v : Vh} {l m : List (Int × Int)} (hv : S.vs[i]? = some v) (hl : S.rows[i]? = some l) (hd : Feas.Dr v m S.t) (he : errT v m S.t = 0) (hf : fitE v m S.t = 0) (hn : Nums m)
 (h1 : ∀ j k r, j ≠ i → S.rows[j]? = some k → noR r m = false → noR r k = true) : Ok { S with rows := S.rows.set i m } := by
 have hi := (List.getElem?_eq_some_iff.1 hl).1
 refine ⟨by simp [h.len], h.cnt, h.tl, fun j v' l' hv' hl' => ?_, fun j k a b r ha hb hra hrb => ?_⟩
 · rcases set_get hi hl' with ⟨rfl, rfl⟩ | ⟨_, h3⟩
   · obtain rfl : v = v' := Option.some.inj (hv.symm.trans hv')
     exact ⟨hd, he, hf, hn⟩
   · exact h.dr j v' l' hv' h3
 · rcases set_get hi ha with ⟨rfl, rfl⟩ | ⟨hj, h3⟩
   · rcases set_get hi hb with ⟨rfl, rfl⟩ | ⟨hk, h4⟩
     · rfl
     · rw [h1 k b r hk h4 hra] at hrb; cases hrb
   · rcases set_get hi hb with ⟨rfl, rfl⟩ | ⟨hk, h4⟩
     · rw [h1 j a r hj h3 hrb] at hra; cases hra
     · exact h.one j k a b r h3 h4 hra hrb
theorem PutAt.ok {S : St} (h : Ok S) {r : Int} {i : Nat} {v : Vh} {l m : List (Int × Int)} (p : PutAt S r i v l m) (hw : whereV S.rows r < 0) : Ok (putS S r) := by
 rw [p.put]
 refine h.set p.vat p.lat p.dr p.err p.fit p.nums fun j k q hj hk hq => ?_
 rw [p.row, noR_moreL p.may] at hq
 cases e : noR q k
 · exfalso
   by_cases hqr : q = r
   · have := where_neg.1 hw k (List.mem_of_getElem? hk)
     rw [hqr, this] at e
     cases e
   · have hl : noR q l = false := by simpa [hqr] using hq
     exact hj (h.one j i k l q hk p.lat e hl)
 · rfl
theorem put_ok {S : St} (h : Ok S) (r : Int) : Ok (putS S r) := by
 by_cases hp : priceE S r = 0
 · obtain ⟨i, v, l, m, p⟩ := put_at h hp
   exact p.ok h (priceE_zero hp).2.1
 · rw [putS_no hp]; exact h
theorem PutAt.tot {S : St} {r : Int} {i : Nat} {v : Vh} {l m : List (Int × Int)} (p : PutAt S r i v l m) : totS (putS S r) = totS S + priceN S r := by
 rw [p.put]
 unfold totS
 rw [totR_set S.t m p.vat p.lat, p.home]
theorem put_tot {S : St} (h : Ok S) (r : Int) : totS (putS S r) = totS S + priceN S r ∧ 0 ≤ priceN S r := by
 by_cases hp : priceE S r = 0
 · obtain ⟨i, v, l, m, p⟩ := put_at h hp
   exact ⟨p.tot, p.rise_nn (h.dr i v l p.vat p.lat).2.1⟩
 · rw [putS_no hp, (price_no hp).2]; omega
theorem PutAt.where_ {S : St} {r : Int} {i : Nat} {v : Vh} {l m : List (Int × Int)} (p : PutAt S r i v l m) (hw : whereV S.rows r < 0) : whereV (putS S r).rows r = i := by
 rw [p.put]
 have hi := (List.getElem?_eq_some_iff.1 p.lat).1
 refine where_at (l := m) (by show (S.rows.set i m)[i]? = some m; rw [List.getElem?_set_self hi]) (by rw [p.row, noR_moreL p.may]; simp) fun x hx => ?_
 have hx' : x ∈ S.rows.take i := by
  show x ∈ _
  have : (S.rows.set i m).take i = S.rows.take i := by rw [List.take_set_of_le (Nat.le_refl _)]
  rw [this] at hx
  exact hx
 exact where_neg.1 hw x (List.mem_of_mem_take hx')
theorem undo {S : St} (h : Ok S) {r : Int} (hp : priceE S r = 0) : 0 ≤ whereV (putS S r).rows r ∧ takeS (putS S r) r = S := by
 obtain ⟨i, v, l, m, p⟩ := put_at h hp
 have hw := p.where_ (priceE_zero hp).2.1
 have hi := (List.getElem?_eq_some_iff.1 p.lat).1
 refine ⟨by omega, ?_⟩
 have hm : (putS S r).rows[i]? = some m := by rw [p.put]; show (S.rows.set i m)[i]? = some m; rw [List.getElem?_set_self hi]
 rw [takeS_yes hw hm, p.back, p.put]
 show ({ vs := S.vs, t := S.t, rows := (S.rows.set i m).set i l } : St) = S
 rw [List.set_set]
 have e : S.rows.set i l = S.rows := by
  have := (List.getElem?_eq_some_iff.1 p.lat).2
  rw [← this, List.set_getElem_self]
 rw [e]
structure TakeAt (S : St) (r : Int) (i : Nat) (v : Vh) (l : List (Int × Int)) : Prop where
 idx : whereV S.rows r = i
 vat : S.vs[i]? = some v
 lat : S.rows[i]? = some l
 has : noR r l = false
 take : takeS S r = { S with rows := S.rows.set i (woL r l) }
 dr : Feas.Dr v (woL r l) S.t
 err : errT v (woL r l) S.t = 0
 fit : fitE v (woL r l) S.t = 0
 nums : Nums (woL r l)
 home : homeT v (woL r l) S.t ≤ homeT v l S.t
theorem TakeAt.ok {S : St} (h : Ok S) {r : Int} {i : Nat} {v : Vh} {l : List (Int × Int)} (p : TakeAt S r i v l) : Ok (takeS S r) := by
 rw [p.take]
 refine h.set p.vat p.lat p.dr p.err p.fit p.nums fun j k q hj hk hq => ?_
 rw [noR_woL] at hq
 cases e : noR q k
 · exfalso
   have hl : noR q l = false := by simp only [Bool.or_eq_false_iff] at hq; exact hq.2
   exact hj (h.one j i k l q hk p.lat e hl)
 · rfl
theorem putS_t (S : St) (r : Int) : (putS S r).t = S.t ∧ (putS S r).vs = S.vs := by
 unfold putS
 split
 · split <;> exact ⟨rfl, rfl⟩
 · exact ⟨rfl, rfl⟩
theorem where_put {S : St} (h : Ok S) {r : Int} (hp : priceE S r = 0) : 0 ≤ whereV (putS S r).rows r := (undo h hp).1
def newS (vs : List Vh) (t : List Rq) : St := ⟨vs, t, vs.map fun _ => []⟩
theorem new_ok {vs : List Vh} {t : List Rq} (hc : 1 ≤ vs.length ∧ vs.length ≤ 4) (ht : t.length ≤ 1000) (hq : ∀ q ∈ t, q.chk = 0) (hv : ∀ v ∈ vs, v.chk = 0) (he : ∀ v ∈ vs, errT v [] t = 0 ∧ fitE v [] t = 0) : Ok (newS vs t) := by
 have hrow : ∀ (i : Nat) l, (newS vs t).rows[i]? = some l → l = [] := fun i l h => by
  unfold newS at h
  simp only [List.getElem?_map, Option.map_eq_some_iff] at h
  obtain ⟨_, _, e⟩ := h
  exact e.symm
 refine ⟨by simp [newS], hc, ht, fun i v l hv' hl' => ?_, fun i j l m r hl hm h1 h2 => ?_⟩
 · obtain rfl := hrow i l hl'
   have hmem : v ∈ vs := List.mem_of_getElem? hv'
   exact ⟨⟨hv v hmem, hq, rfl, by simp, fun s hs => by cases hs⟩, (he v hmem).1, (he v hmem).2, fun s hs => by cases hs⟩
 · obtain rfl := hrow i l hl
   cases h1
end Go.Proofs.YteclpblfleakhaaDoor.Plan
namespace Go.Proofs.YteclpblfleakhaaDoor.Feas
open Go.RowKit Go.Sort Go.Proofs.YteclpblfleakhaaDoor.Mem Go.Proofs.YteclpblfleakhaaDoor.Route Go.Proofs.YteclpblfleakhaaDoor.When Go.Proofs.YteclpblfleakhaaDoor.Load Go.Proofs.YteclpblfleakhaaDoor.Place
set_option linter.unusedVariables false
def Std (t : List Rq) (pre : List (Int × Int)) : Prop := ∀ p s q, pre = p ++ s :: q → stB t p s = true
theorem Std.nil (t : List Rq) : Std t [] := fun p s q e => by cases p <;> cases e
theorem Std.snoc {t : List Rq} {pre : List (Int × Int)} {s : Int × Int} (h : Std t pre) (hs : stB t pre s = true) : Std t (pre ++ [s]) := by
 intro p x q e
 rcases List.eq_nil_or_concat q with rfl | ⟨q', y, rfl⟩
 · have e2 := List.append_inj' e rfl
   rw [← e2.1, ← (List.cons.inj e2.2).1]
   exact hs
 · rw [List.concat_eq_append, ← List.cons_append, ← List.append_assoc] at e
   exact h p x q' (List.append_inj' e rfl).1
theorem Std.init {t : List Rq} {pre : List (Int × Int)} {s : Int × Int} (h : Std t (pre ++ [s])) : Std t pre ∧ stB t pre s = true :=
 ⟨fun p x q e => h p x (q ++ [s]) (by rw [e]; simp), h pre s [] rfl⟩
def Ins (t : List Rq) (l : List (Int × Int)) : Prop := ∀ s ∈ l, 0 ≤ s.1 ∧ s.1 < t.length
def goE (a : Sp) (x : Vi) : Sp := ⟨max (arV a x) x.we + x.sv, x.px, x.py⟩
def leaveV (v : Vh) (t : List Rq) (l : List (Int × Int)) : Sp := (visL t l).foldl goE (sp0 v)
theorem leave_snoc (v : Vh) (t : List Rq) (l : List (Int × Int)) (s : Int × Int) : leaveV v t (l ++ [s]) = goE (leaveV v t l) (visV t s) := by simp [leaveV, visL]
theorem goE_go (k : Nat) (a : Sp) (x : Vi) : goP earlyP k a x = goE a x := rfl
theorem Std.vis {t : List Rq} {pre : List (Int × Int)} (h : Std t pre) (ht : ∀ q ∈ t, q.chk = 0) : ∀ s ∈ pre, ∃ x, visO t s = some x ∧ OkVi x := by
 intro s hs
 obtain ⟨p, q, e⟩ := List.append_of_mem hs
 obtain ⟨x, hx, _⟩ := stB_vis (h p s q e)
 exact ⟨x, hx, vis_ok ht hx⟩
theorem Std.ins {t : List Rq} {pre : List (Int × Int)} (h : Std t pre) : Ins t pre := by
 intro s hs
 obtain ⟨p, q, e⟩ := List.append_of_mem hs
 exact (stB_iff.1 (h p s q e)).1
end Go.Proofs.YteclpblfleakhaaDoor.Feas
namespace Go.Proofs.YteclpblfleakhaaDoor.Feas
open Go.RowKit Go.Sort Go.Proofs.YteclpblfleakhaaDoor.Mem Go.Proofs.YteclpblfleakhaaDoor.Route Go.Proofs.YteclpblfleakhaaDoor.When Go.Proofs.YteclpblfleakhaaDoor.Load Go.Proofs.YteclpblfleakhaaDoor.Float Go.Proofs.YteclpblfleakhaaDoor.Tail Go.Proofs.YteclpblfleakhaaDoor.Place
set_option linter.unusedVariables false
def PB (P : Pace) : Prop := ∀ (k : Nat) (x : Vi) (n : Int), OkVi x → 0 ≤ n → (P k x n).2 = true → 0 ≤ (P k x n).1 ∧ (P k x n).1 ≤ 2000000
theorem pb_early : PB earlyP := fun k x n h hn hs => by
 simp only [earlyP, decide_eq_true_eq] at hs ⊢
 obtain ⟨h1, h2, h3, h4, h5⟩ := h
 omega
theorem early_pace (L : Nat) (w : World) (B : Nat) : PaceC 34 #[] L w B earlyP := fun w' _ k x m hk hok hm1 hm2 => by
 obtain ⟨h1, h2, h3, h4, h5⟩ := hok
 exact earliest_any k x.px x.py x.we x.wl x.sv m (by omega) (by omega) (by omega) w'
section
variable {x : Vi} {n : Int} {y : Tm}
end
structure TripS (v : Vh) (vt kv : Value) (g mb : Nat) (t : List Rq) (pre : List (Int × Int)) (a : Sp) (W : World) : Prop where
 trip : At W g 135 #[.int .i64 v.hx, .int .i64 v.hy, .int .i64 v.cp, .int .i64 v.st, .int .i64 v.en, vt, kv, .map (some mb), .int .i64 (acc t pre), .int .i64 a.px, .int .i64 a.py, .int .i64 a.now]
 fate : FateAt W mb pre.length (fateF pre)
 now : 0 ≤ a.now ∧ a.now ≤ 500000000
 len : pre.length ≤ 16
 acc : -1000 * (pre.length : Int) ≤ acc t pre ∧ acc t pre ≤ 1000 * (pre.length : Int)
def WalkI (v : Vh) (vt kv : Value) (g mb : Nat) (t : List Rq) (P : Pace) (l : List (Int × Int)) (w : World) (k : Nat) (W : World) : Prop :=
 ∃ a, TripS v vt kv g mb t (l.take k) a W ∧ walkV v t P [] (sp0 v) l = walkV v t P (l.take k) a (l.drop k) ∧ Two g mb w W
theorem walk_step {v : Vh} {t : List Rq} {P : Pace} {l : List (Int × Int)} {k : Nat} {a : Sp} {s : Int × Int} (hs : l[k]? = some s) (hw : walkV v t P [] (sp0 v) l = walkV v t P (l.take k) a (l.drop k)) (h0 : srvV v t P (l.take k) a s = 0) :
 walkV v t P [] (sp0 v) l = walkV v t P (l.take (k + 1)) (goP P (l.take k).length a (visV t s)) (l.drop (k + 1)) := by
 obtain ⟨hlt, hx⟩ := List.getElem?_eq_some_iff.1 hs
 rw [hw, List.drop_eq_getElem_cons hlt, hx, walkV_go h0, Load.take_get hs]
theorem walk_bad {v : Vh} {t : List Rq} {P : Pace} {l : List (Int × Int)} {k : Nat} {a : Sp} {s : Int × Int} (hs : l[k]? = some s) (hw : walkV v t P [] (sp0 v) l = walkV v t P (l.take k) a (l.drop k)) (h0 : srvV v t P (l.take k) a s ≠ 0) :
 walkV v t P [] (sp0 v) l = (srvV v t P (l.take k) a s, k, a) := by
 obtain ⟨hlt, hx⟩ := List.getElem?_eq_some_iff.1 hs
 rw [hw, List.drop_eq_getElem_cons hlt, hx, walkV_stop h0, List.length_take]
 rw [show min k l.length = k by omega]
theorem walk_end {v : Vh} {t : List Rq} {P : Pace} {l : List (Int × Int)} {a : Sp} (hw : walkV v t P [] (sp0 v) l = walkV v t P (l.take l.length) a (l.drop l.length)) : walkV v t P [] (sp0 v) l = (0, l.length, a) := by
 rw [hw, List.drop_length, List.take_length, walkV]
theorem walk_in {v : Vh} {t : List Rq} {P : Pace} (hP : PB P) (hq : ∀ q ∈ t, q.chk = 0) {pre : List (Int × Int)} {a : Sp} {s : Int × Int} (h : srvV v t P pre a s = 0) (hn : 0 ≤ a.now ∧ a.now ≤ 500000000) (hl : pre.length ≤ 16) (ha : -1000 * (pre.length : Int) ≤ acc t pre ∧ acc t pre ≤ 1000 * (pre.length : Int)) :
 (0 ≤ (goP P pre.length a (visV t s)).now ∧ (goP P pre.length a (visV t s)).now ≤ 500000000) ∧ (pre ++ [s]).length ≤ 16 ∧ (-1000 * ((pre ++ [s]).length : Int) ≤ acc t (pre ++ [s]) ∧ acc t (pre ++ [s]) ≤ 1000 * ((pre ++ [s]).length : Int)) := by
 obtain ⟨h1, h2, h3, h4⟩ := srv_bits.1 h
 obtain ⟨x, hx, hv⟩ := stB_vis h2
 rw [hv] at h4 ⊢
 have hd := dist_bd (a.px, a.py) (x.px, x.py)
 have hb := hP pre.length x (arV a x) (vis_ok hq hx) (by unfold arV; omega) h4
 obtain ⟨q, hqq, _⟩ := visO_some hx
 have hl1 := chk_ld hq q (List.mem_of_getElem? hqq)
 refine ⟨⟨hb.1, by have := hb.2; show (P pre.length x (arV a x)).1 ≤ _; omega⟩, by simp; omega, ?_⟩
 rw [acc_snoc]
 simp only [stN]
 rw [ldR_get hqq, List.length_append, List.length_singleton]
 unfold sg
 split <;> omega
theorem TripS.on {v : Vh} {vt kv : Value} {g mb : Nat} {t : List Rq} {pre : List (Int × Int)} {a : Sp} {W W' : World} (h : TripS v vt kv g mb t pre a W) (hb : Below W.heap.size W W') : TripS v vt kv g mb t pre a W' :=
 ⟨h.trip.keep hb h.trip.inside, h.fate.keep hb h.fate.inside, h.now, h.len, h.acc⟩
theorem ret_ei {a b c d : Int} (h : a = b) (h2 : c = d) : Ending.returned (.tuple #[.int .i64 a, .int .i64 c]) = .returned (.tuple #[.int .i64 b, .int .i64 d]) := by rw [h, h2]
set_option maxRecDepth 100000 in
set_option maxHeartbeats 4000000 in
theorem walk_any (v : Vh) (vl vt kv : Value) (g mb B : Nat) (P : Pace) (hPB : PB P) (l : List (Int × Int)) (t : List Rq) (w : World) (hl : l.length ≤ 1000000) (hnum : Nums l) (hq : ∀ q ∈ t, q.chk = 0) (hv : v.chk = 0) (hg : TripS v vt kv g mb t [] (sp0 v) w)
 (hL : Row B w vl l) (hT : Rqs B w vt t) (hB : B ≤ w.heap.size) (hBg : B ≤ g ∧ B ≤ mb) (hP : PassC kv l.length B w P) :
 Calls Tryd.prog 52 #[.pointer (some ⟨g, 0, none⟩), vl] w fun e w' =>
  e = .returned (.tuple #[.int .i64 (walkV v t P [] (sp0 v) l).1, .int .i64 ((walkV v t P [] (sp0 v) l).2.1 : Nat)]) ∧ ((walkV v t P [] (sp0 v) l).1 = 0 → TripS v vt kv g mb t l (walkV v t P [] (sp0 v) l).2.2 w') ∧ Two g mb w w' := by
 obtain ⟨xl, N, cap, rfl, hN, hl0, hlc1, hlc2⟩ := hL.opened
 have hgi := hg.trip.inside
 have hmi := hg.fate.inside
 have hI0 : WalkI v vt kv g mb t P l w 0 w := ⟨sp0 v, by simpa using hg, by simp, .refl _ _ _⟩
 have hN' : Hid (l.length = N) := hN
 rw [hN'.out] at hP hl
 have hP' := Lib.hid hP
 have hL' := Lib.hid hL
 have hT' := Lib.hid hT
 have hq' := Lib.hid hq
 have hnum' := Lib.hid hnum
 have hPB' := Lib.hid hPB
 clear hN hP hL hT hq hnum hPB hg hl0
 go_enter Tryd.func52, Tryd.ntmps52
 go_wp2_with fail
 go_step3
 go_wp2_with fail
 go_step3
 go_wp2
 go_loopw [4, 5, 10] (fun c u i wr => ∃ k : Nat, k ≤ N ∧ c = .int .i64 0 ∧ u = .int .i64 k ∧ i = .int .i64 k ∧ WalkI v vt kv g mb t P l w k wr) (fun _ _ i _ => N - (intOf i).toNat)
 case atStart => exact ⟨0, Nat.zero_le _, rfl, rfl, rfl, hI0⟩
 case round =>
  obtain ⟨k, hk, rfl, rfl, rfl, a, hS, hwv, hTw⟩ := hrel
  clear hI0
  by_cases hlt : k < N
  · obtain ⟨⟨s1, s2⟩, hs⟩ : ∃ s, l[k]? = some s := ⟨l[k]'(by rw [hN'.out]; exact hlt), List.getElem?_eq_getElem _⟩
    have hbw : Below B w wr := hTw.below hBg.1 hBg.2 hB
    obtain ⟨b, o, rfl, hb, c0, c1⟩ := Row.stop (hL'.out.keep hbw (Nat.le_refl _)) hs
    simp only at c0 c1
    have hlen : (l.take k).length = k := by rw [List.length_take, hN'.out]; omega
    obtain ⟨w1, hw1⟩ : ∃ w1, wr.alloc (.cells #[.int .i64 s1, .int .i64 s2] 61) = w1 := ⟨_, rfl⟩
    have hb1 : Below wr.heap.size wr w1 := by rw [← hw1]; exact (Below.refl _ _).alloc (Nat.le_refl _) _
    obtain ⟨m, hmq⟩ : ∃ m, wr.heap.size = m := ⟨_, rfl⟩
    have hX : At w1 m 61 #[.int .i64 s1, .int .i64 s2] := by rw [← hw1]; exact At.new_ _ _ _ hmq.symm
    have hS1 := hS.on hb1
    have hT1 := hTw.on hb1
    have hB1 : B ≤ w1.heap.size := by have := hT1.size; omega
    have hbw1 := hT1.below hBg.1 hBg.2 hB
    have hpre := hS.len
    rw [hlen] at hpre
    have hacc := hS.acc
    rw [hlen] at hacc
    have hsv := serve_any v vt kv g mb (l.take k).length B N P t (l.take k) a s1 s2 w1 (by omega) (by omega) (by omega) (hnum'.out _ (List.mem_of_getElem? hs)).1 (by omega) hq'.out hS.now hS1.trip hS1.fate (hT'.out.keep hbw1 (Nat.le_refl _)) hB1 hBg (hP'.out.on hbw1)
    have hin := Lib.hid (fun h => walk_in (v := v) (s := (s1, s2)) hPB'.out hq'.out h hS.now hS.len hS.acc)
    have hgo := Lib.hid (walk_step hs hwv)
    have hbad := Lib.hid (walk_bad hs hwv)
    have htk := Lib.hid (Load.take_get hs)
    rw [hlen] at hsv
    obtain ⟨E, hE⟩ : ∃ E, srvV v t P (l.take k) a (s1, s2) = E := ⟨_, rfl⟩
    rw [hE] at hsv
    have hE' := Lib.hid hE
    have hlen' := Lib.hid hlen
    have hw1' := Lib.hid hw1
    have hmq' := Lib.hid hmq
    have hX0 := hX.cell 0
    have hX1 := hX.cell 1
    simp at hX0 hX1
    clear hS hwv hTw hbw hb1 hS1 hbw1 hpre hacc hE hlen hw1 hs hX hmq
    go_upto_region 4 with fail
    simp only [hmq'.out]
    rw [hw1'.out]
    go_wp2_with fail
    refine hsv.mono ?_
    clear hsv hX0 hX1 c0 c1
    rintro e w2 ⟨rfl, hyes, hT2⟩
    have hTT := hT1.trans hT2
    cases e0 : (E == 0)
    case true =>
     obtain rfl : E = 0 := by simpa using e0
     obtain ⟨hG2, hM2⟩ := hyes rfl
     obtain ⟨i1, i2, i3⟩ := hin.out hE'.out
     have hR : WalkI v vt kv g mb t P l w (k + 1) w2 := ⟨_, ⟨by rw [htk.out, hlen'.out]; exact hG2, by rw [htk.out, List.length_append, hlen'.out]; exact hM2, i1, by rw [htk.out]; exact i2, by rw [htk.out]; exact i3⟩, hgo.out hE'.out, hTT⟩
     clear hyes hG2 hM2 i1 i2 i3 hin hgo hbad e0
     go_wp2
     go_roundw
     case rel => exact ⟨k + 1, hlt, rfl, by go_num, by go_num, hR⟩
     case measure => simp [intOf]; omega
    case false =>
     have hne : E ≠ 0 := by simpa using e0
     have hF := Lib.hid (hbad.out (by rw [hE'.out]; exact hne))
     clear hyes hin hgo hbad hne
     go_wp2
     simp only [Exit.noGoto_ret]
     refine bodyPost_ret (v := .tuple #[.int .i64 E, .int .i64 k]) (by simp [results, Tryd.results52, go_sem]) rfl ?_
     exact ⟨ret_ei (by rw [hF.out, hE'.out]) (by rw [hF.out]), fun h => (by rw [hF.out, hE'.out] at h; simp at e0; exact absurd h e0), hTT⟩
  · obtain rfl : k = N := by omega
    have hF := Lib.hid (walk_end (by rw [hN'.out]; exact hwv))
    have hS' : TripS v vt kv g mb t l a wr := by rw [← hN'.out, List.take_length] at hS; exact hS
    have hkl := Lib.hid (show ((l.length : Nat) : Int) = k by rw [hN'.out])
    clear hS hwv
    go_wp2
    simp only [Exit.noGoto_ret]
    refine bodyPost_ret (v := .tuple #[.int .i64 0, .int .i64 k]) (by simp [results, Tryd.results52, go_sem]) rfl ?_
    exact ⟨ret_ei (by rw [hF.out]) (by rw [hF.out]; exact hkl.out.symm), fun _ => (by rw [hF.out]; exact hS'), hTw⟩
end Go.Proofs.YteclpblfleakhaaDoor.Feas

import Derived.Test.YtlbghdiebjldjaaGreatDoorPkCheapRefBest

namespace Go.Proofs.YtlbghdiebjldjaaGreatDoor.Plan
open Go.RowKit Go.Maps Go.Sort Go.Shelf Go.Proofs.YtlbghdiebjldjaaGreatDoor.Mem Go.Proofs.YtlbghdiebjldjaaGreatDoor.Route Go.Proofs.YtlbghdiebjldjaaGreatDoor.When Go.Proofs.YtlbghdiebjldjaaGreatDoor.Load
set_option linter.unusedVariables false
theorem del_tells {D : DataW Unit} {f : Int → Option Int} {r : Int}
 (h : ∀ r, Maps.has D (.int .i64 r) = (f r).isSome ∧ D.atKey (.int .i64 r) (.lit (.int .i64 0)) = .lit (.int .i64 ((f r).getD 0))) :
 ∀ q, Maps.has (D.del (.int .i64 r)) (.int .i64 q) = ((fun q => if q = r then none else f q) q).isSome ∧
  (D.del (.int .i64 r)).atKey (.int .i64 q) (.lit (.int .i64 0)) = .lit (.int .i64 (((fun q => if q = r then none else f q) q).getD 0)) := by
 intro q
 by_cases hq : q = r
 · subst hq
   simp only [if_true]
   exact ⟨Maps.has_del_same, Maps.atKey_del_same _⟩
 · have hne : (Lit.int .i64 q) ≠ .int .i64 r := fun e => hq (by injection e)
   simp only [if_neg hq]
   exact ⟨(Maps.has_del_other hne).trans (h q).1, by rw [Maps.atKey_del_other hne]; exact (h q).2⟩
theorem keys_tell {w : World} {b n : Nat} {R : Value → Option (DataW Unit × List MemPlace)} {D : DataW Unit} (hown : w.ownsMap Tryz.prog 3 R b n D) : (intKeys D).Nodup ∧ ∀ x, x ∈ intKeys D ↔ Maps.has D (.int .i64 x) = true := by
 obtain ⟨es, hD, hpw, _⟩ := hown.entries (Maps.int_keyed Tryz.underlying3)
 obtain ⟨es', hD', hko⟩ := hown.keysOf
 obtain rfl : es = es' := by rw [hD] at hD'; simpa using hD'
 subst hD
 have hk : ∀ p ∈ es, ∃ x, p.1 = Lit.int .i64 x := fun p hp => by
  obtain ⟨v, hv⟩ := hko p hp
  obtain ⟨x, _, hx, _⟩ := Maps.keyOf_i64 Tryz.underlying3 hv
  exact ⟨x, hx⟩
 constructor
 · show (es.map fun p => Go.intOf p.1).Nodup
   refine List.pairwise_map.2 (hpw.imp_of_mem fun {p q} hp' hq' hne e => hne ?_)
   obtain ⟨a, ha⟩ := hk p hp'
   obtain ⟨c, hc⟩ := hk q hq'
   rw [ha, hc] at e ⊢
   exact congrArg _ e
 · intro x
   rw [has_eq, List.any_eq_true]
   show x ∈ es.map (fun p => Go.intOf p.1) ↔ _
   rw [List.mem_map]
   constructor
   · rintro ⟨p, hp', rfl⟩
     obtain ⟨a, ha⟩ := hk p hp'
     exact ⟨p, hp', by rw [ha]; simp [Lit.sameKey, Go.intOf]⟩
   · rintro ⟨p, hp', hs⟩
     obtain ⟨a, ha⟩ := hk p hp'
     rw [ha] at hs
     exact ⟨p, hp', by rw [ha]; simpa [Lit.sameKey, Go.intOf] using hs⟩
theorem sort_rise {l : List Int} (h : l.Nodup) : Rise (l.mergeSort leI) := by
 have tr : ∀ a b c : Int, leI a b = true → leI b c = true → leI a c = true := fun a b c h1 h2 => by simp only [leI, decide_eq_true_eq] at *; exact Int.le_trans h1 h2
 have tt : ∀ a b : Int, (leI a b || leI b a) = true := fun a b => by simp only [leI, Bool.or_eq_true, decide_eq_true_eq]; exact Int.le_total a b
 have h1 := List.pairwise_mergeSort tr tt l
 have h2 : (l.mergeSort leI).Nodup := (List.mergeSort_perm l leI).nodup_iff.2 h
 refine (h1.and h2).imp fun {a c} hac => ?_
 have := hac.1
 have h4 := hac.2
 simp only [leI, decide_eq_true_eq] at this
 omega
theorem flatI_map : ∀ a : List Int, flatI a = a.map encZ
 | [] => rfl
 | x :: a => by
  have : flatI (x :: a) = inV x ++ flatI a := by simp [flatI]
  rw [this, flatI_map a]
  rfl
theorem few : ∀ (m : Nat) (l : List Int), l.Nodup → (∀ x ∈ l, 0 ≤ x ∧ x < m) → l.length ≤ m
 | 0, l, _, h => by
  cases l with
  | nil => exact Nat.le_refl _
  | cons x l => have := h x (by simp); omega
 | m + 1, l, hn, h => by
  by_cases hm : (m : Int) ∈ l
  · have h1 := few m (l.erase m) (hn.erase _) (fun x hx => by
     have h2 := (hn.mem_erase_iff).1 hx
     have := h x h2.2
     have := h2.1
     omega)
    rw [List.length_erase_of_mem hm] at h1
    omega
  · have := few m l hn (fun x hx => by
     have h2 := h x hx
     have : x ≠ m := fun e => hm (by rw [← e]; exact hx)
     omega)
    omega
theorem map_tight {w : World} {b n : Nat} {f : Int → Option Int} (h : MapAt w b n f) {m : Nat} (hf : ∀ r, (f r).isSome = true → 0 ≤ r ∧ r < m) : MapAt w b m f := by
 obtain ⟨D, hown, hD⟩ := h
 obtain ⟨k1, k2⟩ := keys_tell hown
 have hlen := few m (intKeys D) k1 (fun x hx => hf x (by rw [← (hD x).1]; exact (k2 x).1 hx))
 obtain ⟨es, clock, hb, F, hs, e⟩ := hown
 refine ⟨D, ⟨es, clock, hb, F, ?_, e⟩, hD⟩
 have : (intKeys D).length = es.size := by
  rw [e]
  unfold intKeys
  simp only [List.length_map, length_sorted, Array.length_toList]
 omega
theorem sorts (m : Nat) : AnyZI.SortsIn Tryz.prog Tryz.sortedA_ren Fence.wide m :=
 ⟨fun blk off cap ss W hH hblk hsz => callsIn_wide.2 (AnyM.slices_Sort_int Tryz.sortA blk off cap ss W hH hblk hsz),
  fun p cap W => callsIn_wide.2 (AnyM.slices_Sort_int_none Tryz.sortA p cap W)⟩
theorem Keys_any (mb : Option Nat) (w : World) : Calls Tryz.prog 57 #[.map mb] w fun e w' =>
 e = .returned (.func (.func 92) #[] #[.pointer (some ⟨w.heap.size, 0, none⟩)]) ∧ w' = w.alloc (.cells #[.map mb] 80) :=
 (callsIn_wide (n := 6)).1 (AnyZI.keys_in Tryz.keysA Fence.wide 6 trivial rfl mb w)
set_option maxHeartbeats 1000000 in
theorem Sorted_any (b n : Nat) (f : Int → Option Int) (hn : n ≤ 1000000) (a : List Int) (ha : Rise a) (hf : ∀ r, r ∈ a ↔ (f r).isSome = true) (w : World) (h : MapAt w b n f) :
 Calls Tryz.prog 56 #[.func (.func 92) #[] #[.pointer (some ⟨w.heap.size, 0, none⟩)]] (w.alloc (.cells #[.map (some b)] 80)) fun e w' =>
  (∃ v, e = .returned v ∧ w'.ownsRow w.heap.size 3 1 v a.length (flatI a)) ∧ Below w.heap.size w w' := by
 obtain ⟨D, hown, hD⟩ := h
 have hsz := hown.size_le
 have hbl := hown.lt
 obtain ⟨hk1, hk2⟩ := keys_tell hown
 have hseq : SeqGives Fence.wide 3 Tryz.prog 92 #[.pointer (some ⟨w.heap.size, 0, none⟩)] encZ (fun ss => ss.Perm (intKeys D)) (Maps.size D) (w.alloc (.cells #[.map (some b)] 80)) :=
  AnyZI.keys_gives (ρ := Tryz.keysA_ren) { Tryz.keysA with } Fence.wide _ trivial rfl (by omega) w.heap.size b n D _ (by simp) (by simp) (by
   obtain ⟨es, clock, hb, Ft, hs, hD⟩ := hown
   exact ⟨es, clock, (Below.heap_alloc _ _ b hbl).trans hb, Ft, hs, hD⟩)
 have cS := AnyZI.sorted_in Tryz.sortedA Fence.wide 6 trivial trivial trivial trivial rfl (by omega) (sorts _) (enters_of Tryz.func91 (by kernel_rfl) rfl) 92 #[.pointer (some ⟨w.heap.size, 0, none⟩)] trivial (enters_of Tryz.func92 (by kernel_rfl) rfl) _ _ (by unfold maxLen; omega) (by omega) _ hseq
 refine ((callsIn_wide (n := 6)).1 cS).mono ?_
 rintro e w' ⟨v, ss, rfl, hS, hrow, hnil, hb⟩
 have he : ss.mergeSort (fun x y => decide (x ≤ y)) = a := by
  refine rise_ext (sort_rise (hS.nodup_iff.2 hk1)) ha fun r => ?_
  rw [hf r, ← (hD r).1, ← hk2 r]
  exact ((List.mergeSort_perm ss leI).mem_iff).trans hS.mem_iff
 rw [he] at hrow
 have hlen : ss.length = a.length := by rw [← he]; simp
 refine ⟨⟨v, rfl, ?_⟩, ((Below.refl _ w).alloc (Nat.le_refl _) _).trans (hb.mono (by simp))⟩
 rw [flatI_map a, ← hlen]
 exact owns_more hrow (by simp)
theorem MapClone_any {b n : Nat} {f : Int → Option Int} (w : World) (h : MapAt w b n f) :
 Calls Tryz.prog 40 #[.map (some b)] w fun e w' => e = .returned (.map (some w.heap.size)) ∧ MapAt w' w.heap.size n f ∧ Below w.heap.size w w' := by
 obtain ⟨D, hown, hD⟩ := h
 refine (AnyW.maps_Clone_owns Tryz.mapCloneA 3 (plainElem Tryz.prog 3) b n D w hown).mono ?_
 rintro e w' ⟨h1, h2, _, h4⟩
 exact ⟨h1, ⟨D, h2, hD⟩, h4⟩
end Go.Proofs.YtlbghdiebjldjaaGreatDoor.Plan
namespace Go.Proofs.YtlbghdiebjldjaaGreatDoor.Plan
open Go.RowKit Go.Sort Go.Proofs.YtlbghdiebjldjaaGreatDoor.Mem Go.Proofs.YtlbghdiebjldjaaGreatDoor.Route Go.Proofs.YtlbghdiebjldjaaGreatDoor.When
set_option linter.unusedVariables false
def EmptyAt (B : Nat) (e : TypeId) (m : Nat) (v : Value) (w : World) : Prop := ∃ g : Nat, v = .slice (some ⟨g, 0, none⟩) 0 0 ∧ w.ownsRow B e m v 0 []
def RowAt (B : Nat) (e : TypeId) (m n : Nat) (xs : List Value) (v : Value) (w : World) : Prop := w.ownsRow B e m v n xs
theorem EmptyAt.keep {B : Nat} {e : TypeId} {m : Nat} {v : Value} {w w' : World} (h : EmptyAt B e m v w) (hb : Below w.heap.size w w') : EmptyAt B e m v w' := by
 obtain ⟨g, h1, h2⟩ := h
 exact ⟨g, h1, owns_below h2 hb⟩
theorem RowAt.keep {B : Nat} {e : TypeId} {m n : Nat} {xs : List Value} {v : Value} {w w' : World} (h : RowAt B e m n xs v w) (hb : Below w.heap.size w w') : RowAt B e m n xs v w' := owns_below h hb
theorem ownsEmptyQ {W : World} {base n : Nat} {e : TypeId} {m : Nat} (hn : n = W.heap.size) (hb : base ≤ n) : (W.alloc (.cells #[] e)).ownsRow base e m (.slice (some ⟨n, 0, none⟩) 0 0) 0 [] := by
 subst hn
 exact ⟨by simp, .inr ⟨W.heap.size, 0, #[], rfl, hb, heap_alloc_new W _, Nat.le_refl _, Nat.zero_le _, by simp, by simp⟩⟩
theorem rqs_plainP {B : Nat} {W : World} {v : Value} {l : List Rq} (h : Rqs B W v l) : Plain v := by
 obtain ⟨x, cap, rfl, h1, h2, h0, _⟩ := h
 cases x with
 | none =>
  have := h0 rfl
  simp at this
  exact .inl (by simp [this])
 | some b => exact .inr ⟨b, _, _, rfl⟩
theorem rqV_lenP {t : List Rq} : ∀ r ∈ t.map rqV, r.length = 10 := fun r hr => by obtain ⟨s, _, rfl⟩ := List.mem_map.1 hr; rfl
theorem flatQ_length (t : List Rq) : (flatQ t).length = t.length * 10 := by
 induction t with
 | nil => rfl
 | cons q t ih =>
  have : flatQ (q :: t) = rqV q ++ flatQ t := by simp [flatQ]
  rw [this, List.length_append, ih]
  simp [rqV]
  omega
theorem rqs_flat {B : Nat} {W : World} {b : Addr} {N cap : Nat} {l : List Rq} (h : Rqs B W (.slice (some b) N cap) l) : ∀ j u, (flatQ l)[j]? = some u → W.cell? (b.add j) = some u := by
 intro j u hj
 obtain ⟨i, k, r, e, hr, hu⟩ := flat_of (m := 10) (by decide) rqV_lenP j u hj
 obtain ⟨g, o, hx, hg, hc⟩ := RowB.row h hr
 cases hx
 have := hc k u hu
 rw [add_at, e, show o + (i * 10 + k) = o + i * 10 + k by omega]
 exact this
theorem flatQ_one {t : List Rq} : ∀ u ∈ flatQ t, u.oneCell' = true := by
 intro u hu
 simp only [flatQ, List.mem_flatten, List.mem_map] at hu
 obtain ⟨r, ⟨s, _, rfl⟩, hu⟩ := hu
 simp only [rqV, List.mem_cons, List.not_mem_nil, or_false] at hu
 rcases hu with rfl | rfl | rfl | rfl | rfl | rfl | rfl | rfl | rfl | rfl <;> rfl
def flatV (l : List Vh) : List Value := (l.map vhV).flatten
theorem flatV_length (l : List Vh) : (flatV l).length = l.length * 5 := by
 induction l with
 | nil => rfl
 | cons v l ih => simp only [flatV, List.map_cons, List.flatten_cons, List.length_append, List.length_cons] at *; rw [ih]; simp [vhV]; omega
theorem flatV_one {l : List Vh} : ∀ u ∈ flatV l, u.oneCell' = true := by
 intro u hu
 obtain ⟨r, hr, hu⟩ := List.mem_flatten.1 hu
 obtain ⟨v, _, rfl⟩ := List.mem_map.1 hr
 simp only [vhV, List.mem_cons, List.not_mem_nil, or_false] at hu
 rcases hu with rfl | rfl | rfl | rfl | rfl <;> rfl
theorem flatV_get {l : List Vh} : ∀ {j : Nat} {u : Value}, (flatV l)[j]? = some u → ∃ (k : Nat) (v : Vh) (i : Nat), l[k]? = some v ∧ j = k * 5 + i ∧ (vhV v)[i]? = some u := by
 induction l with
 | nil => intro j u h; simp [flatV] at h
 | cons v l ih =>
  intro j u h
  have e : flatV (v :: l) = vhV v ++ flatV l := by simp [flatV]
  rw [e] at h
  by_cases hj : j < 5
  · rw [List.getElem?_append_left (by simpa [vhV] using hj)] at h
    exact ⟨0, v, j, rfl, by omega, h⟩
  · rw [List.getElem?_append_right (by simp [vhV]; omega)] at h
    obtain ⟨k, v', i, h1, h2, h3⟩ := ih h
    exact ⟨k + 1, v', i, by simpa using h1, by simp [vhV] at h2; omega, h3⟩
theorem vhs_flat {B : Nat} {W : World} {b : Addr} {N cap : Nat} {l : List Vh} (h : Vhs B W (.slice (some b) N cap) l) : ∀ j u, (flatV l)[j]? = some u → W.cell? (b.add j) = some u := by
 intro j u hj
 obtain ⟨k, v, i, h1, rfl, h3⟩ := flatV_get hj
 obtain ⟨g, o, e, hg, hc⟩ := RowB.row h (j := k) (r := vhV v) (by rw [List.getElem?_map, h1]; rfl)
 cases e
 have := hc i u h3
 rw [Nat.add_assoc] at this
 rw [add_at]
 exact this
theorem wpList_append_fresh {P : Program} {w : World} {ops : Array Oper} {rest : List Oper} {o : Oper} {a : Act} {Q : Exit → Act → World → Prop} (hgd : o.guard = none) (s x : Operand) (t : TypeId)
 (ho : o.op = .call { callee := .builtin .append, args := #[s, x], argTypes := #[t, t] })
 (base : Nat) (e : TypeId) (i : TypeInfo) (z : Value) (size bytes : Nat) (ht : P.underlying t = some (.slice e)) (hi : P.info? e = some i) (hz : i.zero = some z)
 (hsize : i.size = size) (hby : i.bytes = bytes) (hzs : z.cells.size = size) (hsz : 0 < size)
 (g : Nat) (hs : a.eval s = .slice (some ⟨g, 0, none⟩) 0 0) (hown : w.ownsRow base e size (.slice (some ⟨g, 0, none⟩) 0 0) 0 [])
 (vx : Value) (m : Nat) (hvx : ∃ y c, vx = .slice y m c) (hP : Plain vx) (news : List Value) (hx : a.eval x = vx) (hl : news.length = m * size) (hnews : ∀ ad c, vx = .slice (some ad) m c → ∀ j u, news[j]? = some u → w.cell? (ad.add j) = some u) (h1 : ∀ u ∈ news, u.oneCell' = true)
 (h63 : m ≤ maxLen) (hbytes : m * bytes ≤ 140737488355328) (hbase : base ≤ w.heap.size)
 (h : ∀ v' w', w'.ownsRow base e size v' m news → Below w.heap.size w w' → wpList P ops Q rest (a.put o.dst v') w') : wpList P ops Q (o :: rest) a w := by
 obtain ⟨y, c, rfl⟩ := hvx
 rcases hP with hn | ⟨ad, mm, cc, he⟩
 · simp only [Value.slice.injEq] at hn
   obtain ⟨rfl, rfl, rfl⟩ := hn
   have hnil : news = [] := List.eq_nil_of_length_eq_zero (by rw [hl]; simp)
   subst hnil
   refine wpList_append_own_none hgd s x t ho base e i size ht hi _ 0 [] hs hown hx ?_
   exact h _ w hown (Below.refl _ _)
 · simp only [Value.slice.injEq] at he
   obtain ⟨rfl, rfl, rfl⟩ := he
   by_cases hm : m = 0
   · subst hm
     have hnil : news = [] := List.eq_nil_of_length_eq_zero (by rw [hl]; simp)
     subst hnil
     refine wpList_plain hgd fun K hK' => ?_
     have hrun := run_append_room_cells (P := P) w t o.type e i ht hi g 0 0 0 ad 0 c [] (by simp) (fun j u hj => by simp at hj) (fun u hu => by cases hu) (Nat.le_refl _) (fun j hj => by simp at hj) (fun j hj => by simp at hj)
     unfold Oper.wp
     simp [execOp, ho, resolve, invoke, builtin, hs, hx, hrun, Result.andThen]
     exact hK' _ _ (h _ w hown (Below.refl _ _))
   · refine wpList_append_grows w hgd s x t ho e i z size bytes ht hi hz hsize hby hzs hsz (some ⟨g, 0, none⟩) 0 0 [] hs (fun e => by cases e) (by simp) (fun b _ j u hj => by simp at hj) ad m c news hx hl (hnews ad c rfl) h1 (by omega) (by omega) (by simpa using hbytes) ?_
     intro v' w' h2 h3
     exact h v' w' (by simpa using owns_more h2 hbase) (gBelow h3)
theorem own_neP {W : World} {b1 b2 s1 s2 n1 n2 : Nat} {t t' : TypeId} {v v' : Value} {xs xs' : List Value} (h1 : W.ownsRow b1 t s1 v n1 xs) (h2 : W.ownsRow b2 t' s2 v' n2 xs') (hne : t ≠ t') : ∀ g, v.ownBlock = some g → v'.ownBlock ≠ some g := by
 intro g e1 e2
 obtain ⟨-, ⟨rfl, -⟩ | ⟨g1, c1, cur1, rfl, -, hg1, -⟩⟩ := h1
 · cases e1
 obtain ⟨-, ⟨rfl, -⟩ | ⟨g2, c2, cur2, rfl, -, hg2, -⟩⟩ := h2
 · cases e2
 simp only [Value.ownBlock, Option.some.injEq] at e1 e2
 subst e1
 subst e2
 have e := hg1.symm.trans hg2
 simp only [Option.some.injEq, Obj.cells.injEq] at e
 exact hne e.2.1
end Go.Proofs.YtlbghdiebjldjaaGreatDoor.Plan
namespace Go.Proofs.YtlbghdiebjldjaaGreatDoor.Plan
open Go.RowKit Go.Sort Go.Proofs.YtlbghdiebjldjaaGreatDoor.Mem Go.Proofs.YtlbghdiebjldjaaGreatDoor.Route Go.Proofs.YtlbghdiebjldjaaGreatDoor.When Go.Proofs.YtlbghdiebjldjaaGreatDoor.Load Go.Proofs.YtlbghdiebjldjaaGreatDoor.Ins Go.Proofs.YtlbghdiebjldjaaGreatDoor.Cheap
set_option linter.unusedVariables false
set_option maxRecDepth 100000 in
set_option maxHeartbeats 4000000 in
theorem refWhere_any {D : Nat → Prop} {lo : Nat} {p gr : Nat} {vf vt : Value} {cap : Nat} {us : List Value} {S : St} (r : Int) (w : World) (h : RefAt D lo w p gr vf vt cap us S) (hlen : ∀ l ∈ S.rows, l.length ≤ 1000000) (hn : S.rows.length ≤ 1000000) :
 Calls Tryz.prog 47 #[.pointer (some ⟨p, 0, none⟩), .int .i64 r] w fun e w' => e = .returned (.int .i64 (whereV S.rows r)) ∧ w' = w := by
 have b2 := h.box.cell 2
 simp at b2
 obtain ⟨hc1, hc2⟩ := h.bd
 unfold maxLen at hc2
 have hp := h.box.inside
 have h' := Lib.hid h
 have hlen' := Lib.hid hlen
 obtain ⟨N, hN⟩ : ∃ N, S.rows.length = N := ⟨_, rfl⟩
 rw [hN] at b2 hc1 hn
 have hN' := Lib.hid hN
 clear h hlen hN
 go_enter Tryz.func47, Tryz.ntmps47
 go_wp2
 go_loopw [5] (fun c wr => ∃ k : Nat, k ≤ N ∧ c = .int .i64 k ∧ Hid (∀ x ∈ S.rows.take k, noR r x = true) ∧ wr = w)
  (fun c _ => N - (intOf c).toNat)
 case atStart => exact ⟨0, Nat.zero_le _, rfl, Lib.hid (by simp), rfl⟩
 case round =>
  obtain ⟨k, hk, rfl, hno, rfl⟩ := hrel
  by_cases hlt : k < N
  · obtain ⟨l, hl⟩ : ∃ l, S.rows[k]? = some l := ⟨S.rows[k]'(by rw [hN'.out]; exact hlt), List.getElem?_eq_getElem _⟩
    obtain ⟨u, hu, hc, hrow⟩ := h'.out.at_ hl
    obtain ⟨x, M, cu, rfl, hM, -⟩ := hrow.opened
    have hM0 : M ≤ 1000000 := by rw [← hM.out]; exact hlen'.out l (List.mem_of_getElem? hl)
    have hkI : (k : Int) < (N : Int) := by omega
    have hl' := Lib.hid hl
    have hrow' := Lib.hid hrow
    have hkN := Lib.hid hlt
    clear hl hu hrow
    go_wp2
    go_loopw [6] (fun c wr2 => ∃ m : Nat, m ≤ M ∧ c = .int .i64 m ∧ Hid (noR r (l.take m) = true) ∧ wr2 = wr)
     (fun c _ => M - (intOf c).toNat)
    case atStart => exact ⟨0, Nat.zero_le _, rfl, Lib.hid (by simp [noR]), rfl⟩
    case round =>
     obtain ⟨m, hm, rfl, hnm, rfl⟩ := hrel
     by_cases hlm : m < M
     · obtain ⟨⟨s1, s2⟩, hs⟩ : ∃ s, l[m]? = some s := ⟨l[m]'(by rw [hM.out]; exact hlm), List.getElem?_eq_getElem _⟩
       obtain ⟨g, o, rfl, hg, e1, e2⟩ := Row.stop hrow'.out hs
       simp at e1 e2
       have hmM := Lib.hid hlm
       cases he : (s1 == r)
       · have hn2 : Hid (noR r (l.take (m + 1)) = true) := Lib.hid (noRs hs (by simpa using he) hnm.out)
         clear hs hnm
         go_wp2
         go_roundw
         case rel => exact ⟨m + 1, hmM.out, by go_num, hn2, by first | trivial | rfl⟩
         case measure => simp [intOf]; omega
       · have hee := Lib.hid (where_at hl'.out (noRh hs (by simpa using he)) hno.out)
         clear hs hnm
         go_wp2
         go_ret
         exact ⟨Route.ret_int hee.out.symm, by first | rfl | trivial⟩
     · obtain rfl : m = M := by omega
       have hn2 : Hid (∀ x ∈ S.rows.take (k + 1), noR r x = true) := Lib.hid (by
        intro x hx
        rw [List.take_add_one, hl'.out] at hx
        rcases List.mem_append.1 hx with hx | hx
        · exact hno.out x hx
        · obtain rfl : x = l := by simpa using hx
          have h1 := hnm.out
          rw [← hM.out, List.take_length] at h1
          exact h1)
       clear hnm
       go_wp2
       go_roundw
       case rel => exact ⟨k + 1, hkN.out, by go_num, hn2, by first | trivial | rfl⟩
       case measure => simp [intOf]; omega
  · obtain rfl : k = N := by omega
    have hee := Lib.hid (where_no (r := r) (rows := S.rows) (by have h1 := hno.out; rw [← hN'.out, List.take_length] at h1; exact h1))
    clear hno
    go_wp2
    go_ret
    exact ⟨Route.ret_int hee.out.symm, by first | rfl | trivial⟩
def allK (S : St) (k : Nat) : List Int := (List.range k).filterMap fun (k : Nat) => if 0 ≤ whereV S.rows k then some (k : Int) else none
theorem allK_yes {S : St} {k : Nat} (h : 0 ≤ whereV S.rows k) : allK S (k + 1) = allK S k ++ [(k : Int)] := by
 unfold allK
 rw [List.range_succ, List.filterMap_append]
 simp [h]
theorem allK_no {S : St} {k : Nat} (h : ¬ 0 ≤ whereV S.rows k) : allK S (k + 1) = allK S k := by
 unfold allK
 rw [List.range_succ, List.filterMap_append]
 simp [h]
theorem allK_len (S : St) : ∀ k, (allK S k).length ≤ k := fun k => by
 have := List.length_filterMap_le (fun (k : Nat) => if 0 ≤ whereV S.rows k then some (k : Int) else none) (List.range k)
 simpa [allK] using this
theorem info_int8 : (Tryz.prog.info? 3).map (fun i => (i.zero, i.size, i.bytes)) = some (some (.int .i64 0), 1, 8) := by kernel_rfl
set_option maxRecDepth 100000 in
set_option maxHeartbeats 4000000 in
theorem refAll_any {D : Nat → Prop} {lo : Nat} {p gr : Nat} {vf vt : Value} {cap : Nat} {us : List Value} {S : St} (w : World) (h : RefAt D lo w p gr vf vt cap us S) (hlen : ∀ l ∈ S.rows, l.length ≤ 1000000) (hn : S.rows.length ≤ 1000000) (ht : S.t.length ≤ 1000000) :
 Calls Tryz.prog 45 #[.pointer (some ⟨p, 0, none⟩)] w fun e w' => (∃ u, e = .returned u ∧ Ints w'.heap.size w' u (allS S)) ∧ Below w.heap.size w w' := by
 obtain ⟨i0, hi, hz0, hz1, hz2⟩ := info_parts info_int8
 obtain ⟨xt, N, ct, rfl, hN0, htc1, htc2, -⟩ := Rqs.opened (show Rqs w.heap.size w vt S.t from h.t.1)
 have b1 := h.box.cell 1
 simp at b1
 unfold maxLen at htc2
 have hp := h.box.inside
 have h' := Lib.hid h
 have hlen' := Lib.hid hlen
 have hn' := Lib.hid hn
 have hN := Lib.hid hN0
 rw [hN0] at ht
 clear h hlen hn hN0
 go_enter Tryz.func45, Tryz.ntmps45
 go_wp2
 go_loopw [3, 4] (fun u i wr => ∃ k : Nat, k ≤ N ∧ i = .int .i64 k ∧ wr.ownsRow w.heap.size 3 1 u (allK S k).length (flatI (allK S k)) ∧ Below w.heap.size w wr)
  (fun _ c _ => N - (intOf c).toNat)
 case atStart => exact ⟨0, Nat.zero_le _, rfl, by simpa [flatI, allK] using World.ownsRow_nil _ _ _ _, Below.refl _ _⟩
 case round =>
  obtain ⟨k, hk, rfl, hown, hbw⟩ := hrel
  have hA := h'.out.on hbw
  have b1 := hA.box.cell 1
  simp at b1
  have hpw := hA.box.inside
  by_cases hlt : k < N
  · have hW := refWhere_any (k : Int) wr hA hlen'.out hn'.out
    have hkI : (k : Int) < (N : Int) := by omega
    have hkN := Lib.hid hlt
    have hyes := Lib.hid (fun h => allK_yes (S := S) (k := k) h)
    have hno := Lib.hid (fun h => allK_no (S := S) (k := k) h)
    have hpl : (allK S k).length ≤ 1000000 := Nat.le_trans (allK_len S k) (by omega)
    obtain ⟨V, hV⟩ : ∃ V, whereV S.rows k = V := ⟨_, rfl⟩
    rw [hV] at hW hyes hno
    obtain ⟨xs, hxs⟩ : ∃ xs, allK S k = xs := ⟨_, rfl⟩
    rw [hxs] at hown hyes hno hpl
    have hsn : Hid (flatI (xs ++ [(k : Int)]) = flatI xs ++ [.int .i64 k]) := Lib.hid (flatI_snoc _ _)
    have hrow := Lib.hid (owns_row hown)
    have hbw' := Lib.hid hbw
    have hsz := hbw.size
    clear hA hV hxs hbw
    go_wp2_with fail
    refine hW.mono ?_
    clear hW
    rintro e w2 ⟨rfl, rfl⟩
    by_cases hV0 : 0 ≤ V
    · have hy := Lib.hid (hyes.out hV0)
      clear hyes hno
      go_wp2_with (at_builtin; refine wpList_append_own _ rfl _ _ 66 rfl w.heap.size 3 i0 (.int .i64 0) 1 8 Tryz.underlying66 hi hz0 hz1 hz2 rfl (by decide) _ _ _ rfl (hown.alloc _) ⟨w2.heap.size, 0, none⟩ 1 1 [.int .i64 k] rfl rfl (World.news_of_block (cs := #[.int .i64 k]) (t := 3) (fr := (0, 0)) (heap_alloc_new w2 _)) (by simp [Value.oneCell']) (by unfold maxLen; omega) (by omega) (by simp; omega) ?_; intro v7 w7 hown7 hgrow7 hnil7)
      have hb7 : Below w.heap.size w w7 := (hbw'.out.alloc hbw'.out.size _).grown hgrow7 (by simp; omega) hrow.out
      go_roundw
      case rel => exact ⟨k + 1, hkN.out, by go_num, by rw [hy.out, hsn.out, List.length_append]; exact hown7, hb7⟩
      case measure => simp [intOf]; omega
    · have hy := Lib.hid (hno.out (by omega))
      have hV1 : V < 0 := by omega
      clear hyes hno
      go_wp2
      go_roundw
      case rel => exact ⟨k + 1, hkN.out, by go_num, by rw [hy.out]; exact hown, hbw'.out⟩
      case measure => simp [intOf]; omega
  · obtain rfl : k = N := by omega
    have he : Hid (allK S k = allS S) := Lib.hid (by unfold allK allS; rw [hN.out])
    have hr := Lib.hid (Ints.of_owns (B := wr.heap.size) hown rfl (Nat.le_refl _))
    obtain ⟨xo, co, rfl, -⟩ := owns_slice hown
    clear hown hA
    go_wp2
    go_ret
    exact ⟨⟨_, rfl, by rw [← he.out]; exact hr.out⟩, hbw⟩
end Go.Proofs.YtlbghdiebjldjaaGreatDoor.Plan
namespace Go.Proofs.YtlbghdiebjldjaaGreatDoor.Feas
open Go.RowKit Go.Proofs.YtlbghdiebjldjaaGreatDoor.Mem
set_option linter.unusedVariables false
inductive Kn where
 | val (u : Value)
 | of (p : Value → World → Prop) (hp : ∀ {v w w'}, p v w → Below w.heap.size w w' → p v w')
 | any
def Kn.holds : Kn → Value → World → Prop
 | .val u, v, _ => v = u
 | .of p _, v, w => p v w
 | .any, _, _ => True
def VK (ks : List Kn) (i : Nat) (v : Value) (w : World) : Prop := ∀ k, ks[i]? = some k → k.holds v w
theorem VK.keep {ks : List Kn} {i : Nat} {v : Value} {w w' : World} (h : VK ks i v w) (hb : Below w.heap.size w w') : VK ks i v w' := fun k hk => by
 have h1 := h k hk
 cases k with
 | val u => exact h1
 | of p hp => exact hp h1 hb
 | any => trivial
theorem VK.val {ks : List Kn} {i : Nat} {u v : Value} {w : World} (h : ks[i]? = some (.val u)) (e : v = u) : VK ks i v w := fun k hk => by rw [h] at hk; cases hk; exact e
theorem VK.of {ks : List Kn} {i : Nat} {v : Value} {w : World} {p : Value → World → Prop} {hp : ∀ {v w w'}, p v w → Below w.heap.size w w' → p v w'} (h : ks[i]? = some (.of p hp)) (e : p v w) : VK ks i v w := fun k hk => by rw [h] at hk; cases hk; exact e
theorem VK.any {ks : List Kn} {i : Nat} {v : Value} {w : World} (h : ks[i]? = some .any) : VK ks i v w := fun k hk => by rw [h] at hk; cases hk; trivial
theorem VK.eq {ks : List Kn} {i : Nat} {u v : Value} {w : World} (hV : VK ks i v w) (h : ks[i]? = some (.val u)) : v = u := hV _ h
theorem VK.get {ks : List Kn} {i : Nat} {v : Value} {w : World} {p : Value → World → Prop} {hp : ∀ {v w w'}, p v w → Below w.heap.size w w' → p v w'} (hV : VK ks i v w) (h : ks[i]? = some (.of p hp)) : p v w := hV _ h
theorem belowTr {a b c : World} (h : Below a.heap.size a b) (k : Below b.heap.size b c) : Below a.heap.size a c := h.trans (k.mono h.size)
end Go.Proofs.YtlbghdiebjldjaaGreatDoor.Feas

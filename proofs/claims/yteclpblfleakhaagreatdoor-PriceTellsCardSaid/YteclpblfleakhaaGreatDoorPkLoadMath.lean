import Derived.Test.YteclpblfleakhaaGreatDoorPkWhenTrip

namespace Go.Proofs.YteclpblfleakhaaGreatDoor.Load
open Go.Proofs.YteclpblfleakhaaGreatDoor.Order Go.Proofs.YteclpblfleakhaaGreatDoor.Place Go.Proofs.YteclpblfleakhaaGreatDoor.Route Go.Proofs.YteclpblfleakhaaGreatDoor.When
set_option linter.unusedVariables false
def ins (n : Int) : List Int → List Int
 | [] => [n]
 | x :: xs => if x < n then x :: ins n xs else n :: x :: xs
def Rise (l : List Int) : Prop := l.Pairwise (· < ·)
theorem mem_ins {n r : Int} : ∀ {l : List Int}, r ∈ ins n l ↔ r = n ∨ r ∈ l
 | [] => by simp [ins]
 | x :: xs => by
  unfold ins
  split
  · rw [List.mem_cons, mem_ins, List.mem_cons]
    exact ⟨fun h => by rcases h with h | h | h <;> simp [h], fun h => by rcases h with h | h | h <;> simp [h]⟩
  · rw [List.mem_cons]
theorem ins_length (n : Int) : ∀ l : List Int, (ins n l).length = l.length + 1
 | [] => rfl
 | x :: xs => by
  unfold ins
  split
  · simp [ins_length n xs]
  · simp
theorem rise_ins {n : Int} : ∀ {l : List Int}, Rise l → n ∉ l → Rise (ins n l)
 | [], _, _ => by simp [ins, Rise]
 | x :: xs, h, hn => by
  obtain ⟨h1, h2⟩ := List.pairwise_cons.1 h
  unfold ins
  split
  · rename_i hx
    refine List.pairwise_cons.2 ⟨fun y hy => ?_, rise_ins h2 (fun hm => hn (List.mem_cons_of_mem _ hm))⟩
    rcases mem_ins.1 hy with rfl | hy
    · exact hx
    · exact h1 y hy
  · rename_i hx
    have hne : x ≠ n := fun e => hn (by rw [e]; exact List.mem_cons_self ..)
    refine List.pairwise_cons.2 ⟨fun y hy => ?_, h⟩
    rcases List.mem_cons.1 hy with rfl | hy
    · omega
    · have := h1 y hy; omega
theorem rise_ext : ∀ {a b : List Int}, Rise a → Rise b → (∀ r, r ∈ a ↔ r ∈ b) → a = b
 | [], [], _, _, _ => rfl
 | [], y :: b, _, _, h => by have := (h y).2 (List.mem_cons_self ..); cases this
 | x :: a, [], _, _, h => by have := (h x).1 (List.mem_cons_self ..); cases this
 | x :: a, y :: b, ha, hb, h => by
  obtain ⟨a1, a2⟩ := List.pairwise_cons.1 ha
  obtain ⟨b1, b2⟩ := List.pairwise_cons.1 hb
  have hxy : x = y := by
   rcases List.mem_cons.1 ((h x).1 (List.mem_cons_self ..)) with e | e
   · exact e
   · rcases List.mem_cons.1 ((h y).2 (List.mem_cons_self ..)) with e2 | e2
     · exact e2.symm
     · have := b1 x e; have := a1 y e2; omega
  subst hxy
  rw [rise_ext a2 b2 fun r => ?_]
  constructor
  · intro hr
    rcases List.mem_cons.1 ((h r).1 (List.mem_cons_of_mem _ hr)) with e | e
    · have := a1 r hr; omega
    · exact e
  · intro hr
    rcases List.mem_cons.1 ((h r).2 (List.mem_cons_of_mem _ hr)) with e | e
    · have := b1 r hr; omega
    · exact e
def opS (b : Bool) (k : Int) : Bool := if k = 0 then true else if k = 1 then false else b
def opB (l : List (Int × Int)) (r : Int) : Bool := l.foldl (fun b s => if s.1 = r then opS b s.2 else b) false
theorem opB_snoc (l : List (Int × Int)) (s : Int × Int) (r : Int) : opB (l ++ [s]) r = if s.1 = r then opS (opB l r) s.2 else opB l r := by simp [opB]
theorem fold_ofR (r : Int) : ∀ (l : List (Int × Int)) (b : Bool), l.foldl (fun b s => if s.1 = r then opS b s.2 else b) b = (ofR r l).foldl (fun b s => if s.1 = r then opS b s.2 else b) b
 | [], b => rfl
 | s :: l, b => by
  by_cases h : s.1 = r
  · rw [ofR_cons_same h, List.foldl_cons, List.foldl_cons, fold_ofR r l]
  · rw [ofR_cons_other h, List.foldl_cons, if_neg h, fold_ofR r l]
theorem opB_ofR (l : List (Int × Int)) (r : Int) : opB l r = opB (ofR r l) r := fold_ofR r l false
theorem opB_mem {l : List (Int × Int)} {r : Int} (h : opB l r = true) : noR r l = false := by
 cases hn : noR r l
 · rfl
 · rw [opB_ofR, noR_ofR.1 hn] at h
   cases h
theorem snoc_ind {α : Type} {P : List α → Prop} (h0 : P []) (h1 : ∀ l s, P l → P (l ++ [s])) (l : List α) : P l := by
 have : ∀ l : List α, P l.reverse := by
  intro l
  induction l with
  | nil => exact h0
  | cons s l ih => rw [List.reverse_cons]; exact h1 _ _ ih
 have h := this l.reverse
 rwa [List.reverse_reverse] at h
def opT (l : List (Int × Int)) : Nat → List Int
 | 0 => []
 | i + 1 => match l[i]? with
  | some s => if noR s.1 (l.take i) && opB l s.1 then ins s.1 (opT l i) else opT l i
  | none => opT l i
def opL (l : List (Int × Int)) : List Int := opT l l.length
theorem opT_yes {l : List (Int × Int)} {i : Nat} {s : Int × Int} (h : l[i]? = some s) (hb : (noR s.1 (l.take i) && opB l s.1) = true) : opT l (i + 1) = ins s.1 (opT l i) := by rw [opT, h]; simp only; rw [if_pos hb]
theorem opT_no {l : List (Int × Int)} {i : Nat} {s : Int × Int} (h : l[i]? = some s) (hb : (noR s.1 (l.take i) && opB l s.1) = false) : opT l (i + 1) = opT l i := by rw [opT, h]; simp only; rw [hb]; rfl
theorem take_get {α : Type} {l : List α} {k : Nat} {s : α} (h : l[k]? = some s) : l.take (k + 1) = l.take k ++ [s] := by rw [List.take_add_one, h]; rfl
theorem noR_snoc (r : Int) (l : List (Int × Int)) (s : Int × Int) : noR r (l ++ [s]) = (noR r l && decide (s.1 ≠ r)) := by simp [noR]
theorem opT_tells (l : List (Int × Int)) : ∀ i, i ≤ l.length → Rise (opT l i) ∧ (∀ r, r ∈ opT l i ↔ opB l r = true ∧ noR r (l.take i) = false) ∧ (opT l i).length ≤ i
 | 0, _ => ⟨List.Pairwise.nil, fun r => by simp [opT, noR], Nat.zero_le _⟩
 | i + 1, h => by
  obtain ⟨h1, h2, h3⟩ := opT_tells l i (by omega)
  have hs : l[i]? = some l[i] := List.getElem?_eq_getElem (by omega)
  have ht := take_get hs
  generalize l[i] = s at hs ht
  cases hb : (noR s.1 (l.take i) && opB l s.1)
  · rw [opT_no hs hb, ht]
    refine ⟨h1, fun r => ?_, by omega⟩
    rw [h2 r, noR_snoc]
    constructor
    · rintro ⟨a, b⟩; exact ⟨a, by rw [b]; rfl⟩
    · rintro ⟨a, b⟩
      refine ⟨a, ?_⟩
      by_cases e : s.1 = r
      · subst e
        rw [a, Bool.and_true] at hb
        exact hb
      · simpa [e] using b
  · rw [opT_yes hs hb, ht]
    rw [Bool.and_eq_true] at hb
    refine ⟨rise_ins h1 (fun hm => by have := ((h2 _).1 hm).2; rw [hb.1] at this; cases this), fun r => ?_, by rw [ins_length]; omega⟩
    rw [mem_ins, h2 r, noR_snoc]
    constructor
    · rintro (rfl | ⟨a, b⟩)
      · exact ⟨hb.2, by simp⟩
      · exact ⟨a, by rw [b]; rfl⟩
    · rintro ⟨a, b⟩
      by_cases e : s.1 = r
      · exact .inl e.symm
      · exact .inr ⟨a, by simpa [e] using b⟩
theorem opL_rise (l : List (Int × Int)) : Rise (opL l) := (opT_tells l _ (Nat.le_refl _)).1
theorem mem_opL {l : List (Int × Int)} {r : Int} : r ∈ opL l ↔ opB l r = true := by
 unfold opL
 rw [(opT_tells l _ (Nat.le_refl _)).2.1 r, List.take_length]
 exact ⟨fun h => h.1, fun h => ⟨h, opB_mem h⟩⟩
theorem opL_length (l : List (Int × Int)) : (opL l).length ≤ l.length := (opT_tells l _ (Nat.le_refl _)).2.2
theorem opL_eq {l : List (Int × Int)} {a : List Int} (ha : Rise a) (h : ∀ r, r ∈ a ↔ opB l r = true) : a = opL l := rise_ext ha (opL_rise l) fun r => (h r).trans mem_opL.symm
def ldR (t : List Rq) (r : Int) : Int := ((t[r.toNat]?).map Rq.ld).getD 0
def sg (k : Int) : Int := if k = 0 then 1 else -1
def stN (t : List Rq) (s : Int × Int) : Int := sg s.2 * ldR t s.1
def acc (t : List Rq) : List (Int × Int) → Int
 | [] => 0
 | s :: l => stN t s + acc t l
def sumL (t : List Rq) : List Int → Int
 | [] => 0
 | r :: l => ldR t r + sumL t l
theorem acc_append (t : List Rq) : ∀ a b : List (Int × Int), acc t (a ++ b) = acc t a + acc t b
 | [], b => by simp [acc]
 | s :: a, b => by rw [List.cons_append, acc, acc, acc_append t a b]; omega
theorem acc_snoc (t : List Rq) (a : List (Int × Int)) (s : Int × Int) : acc t (a ++ [s]) = acc t a + stN t s := by rw [acc_append]; simp [acc]
theorem sumL_ins (t : List Rq) (r : Int) : ∀ a : List Int, sumL t (ins r a) = ldR t r + sumL t a
 | [] => rfl
 | x :: a => by
  unfold ins
  split
  · rw [sumL, sumL, sumL_ins t r a]; omega
  · rfl
def prof (t : List Rq) (l : List (Int × Int)) : List Int := (List.range l.length).map fun k => acc t (l.take (k + 1))
def peakL (p : List Int) : Int := p.foldl max 0
theorem peakL_snoc (p : List Int) (x : Int) : peakL (p ++ [x]) = max (peakL p) x := by simp [peakL]
def fstF (c : Int) : Nat → List Int → Int
 | _, [] => -1
 | k, x :: p => if c < x then k else fstF c (k + 1) p
def fstV (c : Int) (p : List Int) : Int := fstF c 0 p
theorem fstF_at {c x : Int} (hx : c < x) : ∀ {p q : List Int} {k : Nat}, (∀ y ∈ p, y ≤ c) → fstF c k (p ++ x :: q) = (k + p.length : Nat)
 | [], q, k, _ => by rw [List.nil_append, fstF, if_pos hx]; simp
 | y :: p, q, k, h => by
  have := h y (List.mem_cons_self ..)
  rw [List.cons_append, fstF, if_neg (by omega), fstF_at hx (fun z hz => h z (List.mem_cons_of_mem _ hz))]
  simp
  omega
theorem fstF_no {c : Int} : ∀ {p : List Int} {k : Nat}, (∀ y ∈ p, y ≤ c) → fstF c k p = -1
 | [], k, _ => rfl
 | y :: p, k, h => by
  have := h y (List.mem_cons_self ..)
  rw [fstF, if_neg (by omega), fstF_no (fun z hz => h z (List.mem_cons_of_mem _ hz))]
def moreB (c : Int) (p : List Int) : Bool := p.any fun x => decide (c < x)
def outB (t : List Rq) (r : Int) : Bool := decide ((t.length : Int) ≤ r)
def badB (t : List Rq) (r : Int) : Bool := match t[r.toNat]? with | some q => decide (q.chk ≠ 0) | none => false
def toldV (l : List (Int × Int)) (t : List Rq) : Int :=
 if checkV l ≠ 0 then checkV l else if l.any (fun s => outB t s.1) then 8 else if l.any (fun s => badB t s.1) then 2 else 0
def profV (l : List (Int × Int)) (t : List Rq) : List Int := if toldV l t = 0 then prof t l else []
def fitAt (v : Vh) (l : List (Int × Int)) (t : List Rq) : Int := if v.chk = 0 then fstV v.cp (profV l t) else -1
def fitE (v : Vh) (l : List (Int × Int)) (t : List Rq) : Int := if v.chk ≠ 0 then v.chk else if toldV l t ≠ 0 then toldV l t else if moreB v.cp (profV l t) then 10 else 0
theorem check_isR {l : List (Int × Int)} (h : checkV l = 0) : isR l = true ∧ l.length ≤ 16 := by
 unfold checkV at h
 split at h
 · omega
 · split at h
   · rename_i h1 h2; exact ⟨h2, by omega⟩
   · omega
theorem picks_mem {l : List (Int × Int)} (h : isR l = true) {r : Int} : r ∈ picksL l ↔ ∃ s ∈ l, s.1 = r := by
 unfold picksL
 rw [List.mem_map]
 constructor
 · rintro ⟨s, hs, rfl⟩
   exact ⟨s, (List.mem_filter.1 hs).1, rfl⟩
 · rintro ⟨s, hs, rfl⟩
   have h1 := (isR_iff.1 h s hs).2
   have h2 : ((s.1, 0) : Int × Int) ∈ ofR s.1 l := by rw [h1]; simp
   exact ⟨(s.1, 0), List.mem_filter.2 ⟨(mem_ofR.1 h2).1, by simp⟩, rfl⟩
theorem any_picks {l : List (Int × Int)} (h : isR l = true) (f : Int → Bool) : (picksL l).any f = l.any fun s => f s.1 := by
 rw [Bool.eq_iff_iff, List.any_eq_true, List.any_eq_true]
 constructor
 · rintro ⟨r, hr, hf⟩
   obtain ⟨s, hs, rfl⟩ := (picks_mem h).1 hr
   exact ⟨s, hs, hf⟩
 · rintro ⟨s, hs, hf⟩
   exact ⟨s.1, (picks_mem h).2 ⟨s, hs, rfl⟩, hf⟩
theorem told_bits {l : List (Int × Int)} {t : List Rq} (h : toldV l t = 0) : isR l = true ∧ l.length ≤ 16 ∧ ∀ s ∈ l, ∃ q, t[s.1.toNat]? = some q ∧ 0 ≤ s.1 ∧ s.1 < t.length ∧ (1 ≤ q.ld ∧ q.ld ≤ 1000) ∧ (s.2 = 0 ∨ s.2 = 1) := by
 unfold toldV at h
 split at h
 · rename_i h1; exact absurd h h1
 · rename_i h1
   obtain ⟨h2, h3⟩ := check_isR (by omega : checkV l = 0)
   split at h
   · omega
   · rename_i h4
     split at h
     · omega
     · rename_i h5
       refine ⟨h2, h3, fun s hs => ?_⟩
       have h0 := (isR_iff.1 h2 s hs)
       have ho : outB t s.1 = false := by
        cases e : outB t s.1
        · rfl
        · exact absurd (List.any_eq_true.2 ⟨s, hs, e⟩) h4
       have hb : badB t s.1 = false := by
        cases e : badB t s.1
        · rfl
        · exact absurd (List.any_eq_true.2 ⟨s, hs, e⟩) h5
       simp only [outB, decide_eq_false_iff_not] at ho
       have hlt : s.1.toNat < t.length := by omega
       have hq : t[s.1.toNat]? = some t[s.1.toNat] := List.getElem?_eq_getElem hlt
       refine ⟨_, hq, h0.1, by omega, ?_, ?_⟩
       · unfold badB at hb
         rw [hq] at hb
         simp only [decide_eq_false_iff_not, Classical.not_not] at hb
         unfold Rq.chk at hb
         exact ((chk_iff ..).1 hb).2.2.1
       · have h6 : s ∈ ofR s.1 l := mem_ofR.2 ⟨hs, rfl⟩
         rw [h0.2] at h6
         simp only [List.mem_cons, List.not_mem_nil, or_false] at h6
         rcases h6 with h6 | h6 <;> rw [h6] <;> simp
theorem ldR_get {t : List Rq} {r : Int} {q : Rq} (h : t[r.toNat]? = some q) : ldR t r = q.ld := by simp [ldR, h]
theorem acc_open {l : List (Int × Int)} (t : List Rq) (h : isR l = true) : ∀ k, k ≤ l.length → acc t (l.take k) = sumL t (opL (l.take k))
 | 0, _ => by simp [acc, opL, opT, sumL]
 | k + 1, hk => by
  have ih := acc_open t h k (by omega)
  have hs : l[k]? = some l[k] := List.getElem?_eq_getElem (by omega)
  have hm : l[k] ∈ l := List.getElem_mem _
  have hd : l = l.take k ++ l[k] :: l.drop (k + 1) := by rw [← List.drop_eq_getElem_cons (by omega), List.take_append_drop]
  have ht := take_get hs
  generalize l[k] = s at hs hm hd ht
  rw [ht, acc_snoc, ih]
  have h2 := (isR_iff.1 h s hm).2
  rcases split3 hd rfl h2 with ⟨e, hp, _⟩ | ⟨e, hp, _⟩
  · have hf : opB (l.take k) s.1 = false := by rw [opB_ofR, hp]; rfl
    have : ins s.1 (opL (l.take k)) = opL (l.take k ++ [s]) := by
     refine opL_eq (rise_ins (opL_rise _) (fun hm => by rw [mem_opL, hf] at hm; cases hm)) fun r => ?_
     rw [mem_ins, mem_opL, opB_snoc]
     have e2 : s.2 = 0 := by rw [e]
     by_cases hr : s.1 = r
     · subst hr
       rw [if_pos rfl, e2]
       simp [opS]
     · rw [if_neg hr]
       exact ⟨fun h => by rcases h with h | h; exact absurd h.symm hr; exact h, .inr⟩
    rw [← this, sumL_ins]
    have e2 : s.2 = 0 := by rw [e]
    unfold stN sg
    rw [if_pos e2]
    omega
  · have hf : opB (l.take k) s.1 = true := by rw [opB_ofR, hp]; simp [opB, opS]
    have e2 : s.2 = 1 := by rw [e]
    have hno : opB (l.take k ++ [s]) s.1 = false := by rw [opB_snoc, if_pos rfl, e2]; simp [opS]
    have : ins s.1 (opL (l.take k ++ [s])) = opL (l.take k) := by
     refine opL_eq (rise_ins (opL_rise _) (fun hm => by rw [mem_opL, hno] at hm; cases hm)) fun r => ?_
     rw [mem_ins, mem_opL, opB_snoc]
     by_cases hr : s.1 = r
     · subst hr
       rw [hf]
       simp
     · rw [if_neg hr]
       exact ⟨fun h => by rcases h with h | h; exact absurd h.symm hr; exact h, .inr⟩
    rw [← this, sumL_ins]
    unfold stN sg
    rw [if_neg (by omega)]
    omega
theorem sumL_bd {t : List Rq} : ∀ {o : List Int}, (∀ r ∈ o, 0 ≤ ldR t r ∧ ldR t r ≤ 1000) → 0 ≤ sumL t o ∧ sumL t o ≤ 1000 * o.length
 | [], _ => by simp [sumL]
 | r :: o, h => by
  have h1 := h r (List.mem_cons_self ..)
  have h2 := sumL_bd (t := t) (fun x hx => h x (List.mem_cons_of_mem _ hx))
  rw [sumL, List.length_cons]
  omega
theorem opL_of {l : List (Int × Int)} {r : Int} (h : r ∈ opL l) : ∃ s ∈ l, s.1 = r := by
 have := opB_mem (mem_opL.1 h)
 cases hh : decide (∃ s ∈ l, s.1 = r)
 · exfalso
   have h2 : noR r l = true := noR_iff.2 fun s hs e => (of_decide_eq_false hh) ⟨s, hs, e⟩
   rw [h2] at this
   cases this
 · exact of_decide_eq_true hh
theorem ld_bd {l : List (Int × Int)} {t : List Rq} (h : toldV l t = 0) {s : Int × Int} (hs : s ∈ l) : 1 ≤ ldR t s.1 ∧ ldR t s.1 ≤ 1000 := by
 obtain ⟨q, hq, _, _, h5, _⟩ := (told_bits h).2.2 s hs
 rw [ldR_get hq]
 exact h5
theorem open_bd {l : List (Int × Int)} {t : List Rq} (h : toldV l t = 0) (k : Nat) : ∀ r ∈ opL (l.take k), 1 ≤ ldR t r ∧ ldR t r ≤ 1000 := fun r hr => by
 obtain ⟨s, hs, rfl⟩ := opL_of hr
 exact ld_bd h (List.mem_of_mem_take hs)
theorem open_len {l : List (Int × Int)} {t : List Rq} (h : toldV l t = 0) (k : Nat) : (opL (l.take k)).length ≤ 16 := by
 have := opL_length (l.take k)
 have h2 := (told_bits h).2.1
 rw [List.length_take] at this
 omega
theorem acc_bd {l : List (Int × Int)} {t : List Rq} (h : toldV l t = 0) {k : Nat} (hk : k ≤ l.length) : 0 ≤ acc t (l.take k) ∧ acc t (l.take k) ≤ 16000 := by
 rw [acc_open t (told_bits h).1 k hk]
 have h1 := sumL_bd (t := t) (o := opL (l.take k)) (fun r hr => by have := open_bd h k r hr; omega)
 have h2 := open_len h k
 omega
theorem acc_last {l : List (Int × Int)} (t : List Rq) (h : isR l = true) : acc t l = 0 := by
 have h1 := acc_open t h l.length (Nat.le_refl _)
 rw [List.take_length] at h1
 rw [h1]
 have : opL l = [] := by
  cases e : opL l with
  | nil => rfl
  | cons r o =>
   exfalso
   have hr : r ∈ opL l := by rw [e]; exact List.mem_cons_self ..
   obtain ⟨s, hs, rfl⟩ := opL_of hr
   have h2 := mem_opL.1 hr
   rw [opB_ofR, (isR_iff.1 h s hs).2] at h2
   simp [opB, opS] at h2
 rw [this]
 rfl
end Go.Proofs.YteclpblfleakhaaGreatDoor.Load
namespace Go.Proofs.YteclpblfleakhaaGreatDoor.Ins
open Go.RowKit Go.Proofs.YteclpblfleakhaaGreatDoor.Order Go.Proofs.YteclpblfleakhaaGreatDoor.Place Go.Proofs.YteclpblfleakhaaGreatDoor.Route Go.Proofs.YteclpblfleakhaaGreatDoor.When Go.Proofs.YteclpblfleakhaaGreatDoor.Load
set_option linter.unusedVariables false
def placesB (n : Nat) (i j : Int) : Bool := decide (0 ≤ i) && decide (i ≤ j) && decide (j ≤ n)
def moreL (l : List (Int × Int)) (r i j : Int) : List (Int × Int) := withL l r i.toNat j.toNat
def withE (v : Vh) (l : List (Int × Int)) (t : List Rq) (r i j : Int) : Int :=
 if (inT t r && noR r l) = false then 8 else if errT v l t ≠ 0 then errT v l t else if 14 < l.length then 11 else if placesB l.length i j then 0 else 8
def riseE (v : Vh) (l : List (Int × Int)) (t : List Rq) (r i j : Int) : Int :=
 if withE v l t r i j ≠ 0 then withE v l t r i j else if fitE v (moreL l r i j) t ≠ 0 then fitE v (moreL l r i j) t else errT v (moreL l r i j) t
def riseV (v : Vh) (l : List (Int × Int)) (t : List Rq) (r i j : Int) : Int := if riseE v l t r i j = 0 then homeT v (moreL l r i j) t - homeT v l t else 0
theorem withE_req {v : Vh} {l : List (Int × Int)} {t : List Rq} {r i j : Int} (h : (inT t r && noR r l) = false) : withE v l t r i j = 8 := by unfold withE; rw [if_pos h]
theorem withE_err {v : Vh} {l : List (Int × Int)} {t : List Rq} {r i j : Int} (h : (inT t r && noR r l) = true) (h1 : errT v l t ≠ 0) : withE v l t r i j = errT v l t := by unfold withE; rw [if_neg (by simp [h]), if_pos h1]
theorem withE_count {v : Vh} {l : List (Int × Int)} {t : List Rq} {r i j : Int} (h : (inT t r && noR r l) = true) (h1 : errT v l t = 0) (h2 : 14 < l.length) : withE v l t r i j = 11 := by unfold withE; rw [if_neg (by simp [h]), if_neg (by omega), if_pos h2]
theorem withE_place {v : Vh} {l : List (Int × Int)} {t : List Rq} {r i j : Int} (h : (inT t r && noR r l) = true) (h1 : errT v l t = 0) (h2 : ¬ 14 < l.length) (h3 : placesB l.length i j = false) : withE v l t r i j = 8 := by unfold withE; rw [if_neg (by simp [h]), if_neg (by omega), if_neg h2, h3]; rfl
theorem withE_ok {v : Vh} {l : List (Int × Int)} {t : List Rq} {r i j : Int} (h : (inT t r && noR r l) = true) (h1 : errT v l t = 0) (h2 : ¬ 14 < l.length) (h3 : placesB l.length i j = true) : withE v l t r i j = 0 := by unfold withE; rw [if_neg (by simp [h]), if_neg (by omega), if_neg h2, h3]; rfl
theorem placesB_iff {n : Nat} {i j : Int} : placesB n i j = true ↔ 0 ≤ i ∧ i ≤ j ∧ j ≤ n := by simp [placesB, and_assoc]
theorem inT_iff {t : List Rq} {r : Int} : inT t r = true ↔ 0 ≤ r ∧ r < t.length := by simp [inT]
theorem mayW_places {l : List (Int × Int)} {t : List Rq} {r i j : Int} (h : (inT t r && noR r l) = true) (h2 : ¬ 14 < l.length) : mayW l r i j = placesB l.length i j := by
 simp only [Bool.and_eq_true] at h
 rw [Bool.eq_iff_iff, mayW_iff, placesB_iff]
 have := inT_iff.1 h.1
 constructor
 · intro h; omega
 · intro h9; exact ⟨h9.1, h9.2.1, h9.2.2, this.1, by omega, h.2⟩
theorem withE_zero {v : Vh} {l : List (Int × Int)} {t : List Rq} {r i j : Int} (h : withE v l t r i j = 0) : (inT t r && noR r l) = true ∧ errT v l t = 0 ∧ l.length ≤ 14 ∧ placesB l.length i j = true ∧ mayW l r i j = true := by
 unfold withE at h
 split at h
 · omega
 rename_i h1
 split at h
 · omega
 rename_i h2
 split at h
 · omega
 rename_i h3
 split at h
 · rename_i h4
   have h1' : (inT t r && noR r l) = true := by simpa using h1
   exact ⟨h1', by omega, by omega, h4, by rw [mayW_places h1' h3]; exact h4⟩
 · omega
theorem withV_more {l : List (Int × Int)} {r i j : Int} (h : mayW l r i j = true) : withV l r i j = moreL l r i j := by unfold withV; rw [h]; rfl
theorem moreL_length {l : List (Int × Int)} {r i j : Int} (h : mayW l r i j = true) : (moreL l r i j).length = l.length + 2 := by
 have := mayW_iff.1 h
 exact withL_length (by omega) (by omega) r
theorem moreL_nums {l : List (Int × Int)} {r i j : Int} (hl : Nums l) (hr : I64 r) : Nums (moreL l r i j) := by
 intro s hs
 unfold moreL withL at hs
 have k0 : I64 0 := ⟨by omega, by omega⟩
 have k1 : I64 1 := ⟨by omega, by omega⟩
 simp only [List.mem_append, List.mem_cons] at hs
 rcases hs with hs | rfl | hs | rfl | hs
 · exact hl s (List.mem_of_mem_take hs)
 · exact ⟨hr, k0⟩
 · exact hl s (List.mem_of_mem_take (List.mem_of_mem_drop hs))
 · exact ⟨hr, k1⟩
 · exact hl s (List.mem_of_mem_drop hs)
theorem riseE_with {v : Vh} {l : List (Int × Int)} {t : List Rq} {r i j : Int} (h : withE v l t r i j ≠ 0) : riseE v l t r i j = withE v l t r i j := by unfold riseE; rw [if_pos h]
theorem riseE_fit {v : Vh} {l : List (Int × Int)} {t : List Rq} {r i j : Int} (h : withE v l t r i j = 0) (h1 : fitE v (moreL l r i j) t ≠ 0) : riseE v l t r i j = fitE v (moreL l r i j) t := by unfold riseE; rw [if_neg (by omega), if_pos h1]
theorem riseE_err {v : Vh} {l : List (Int × Int)} {t : List Rq} {r i j : Int} (h : withE v l t r i j = 0) (h1 : fitE v (moreL l r i j) t = 0) : riseE v l t r i j = errT v (moreL l r i j) t := by unfold riseE; rw [if_neg (by omega), if_neg (by omega)]
theorem riseE_zero {v : Vh} {l : List (Int × Int)} {t : List Rq} {r i j : Int} (h : riseE v l t r i j = 0) : withE v l t r i j = 0 ∧ fitE v (moreL l r i j) t = 0 ∧ errT v (moreL l r i j) t = 0 := by
 unfold riseE at h
 split at h
 · omega
 split at h
 · omega
 exact ⟨by omega, by omega, h⟩
theorem riseV_no {v : Vh} {l : List (Int × Int)} {t : List Rq} {r i j : Int} (h : riseE v l t r i j ≠ 0) : riseV v l t r i j = 0 := by unfold riseV; rw [if_neg h]
theorem riseV_ok {v : Vh} {l : List (Int × Int)} {t : List Rq} {r i j : Int} (h : riseE v l t r i j = 0) : riseV v l t r i j = homeT v (moreL l r i j) t - homeT v l t := by unfold riseV; rw [if_pos h]
theorem homeT_bd (v : Vh) (l : List (Int × Int)) (t : List Rq) : 0 ≤ homeT v l t ∧ homeT v l t ≤ 3000000 := by
 by_cases h : errT v l t = 0
 · rw [homeT_ok h]; exact (times_ok (When.errT_zero h).1).2.1
 · rw [homeT_no h]; omega
end Go.Proofs.YteclpblfleakhaaGreatDoor.Ins
namespace Go.Proofs.YteclpblfleakhaaGreatDoor.Feas
open Go.Proofs.YteclpblfleakhaaGreatDoor.Order Go.Proofs.YteclpblfleakhaaGreatDoor.Place Go.Proofs.YteclpblfleakhaaGreatDoor.Route Go.Proofs.YteclpblfleakhaaGreatDoor.When Go.Proofs.YteclpblfleakhaaGreatDoor.Load
set_option linter.unusedVariables false
def nR (r : Int) (l : List (Int × Int)) : Int := (ofR r l).length
theorem nR_snoc (r : Int) (l : List (Int × Int)) (s : Int × Int) : nR r (l ++ [s]) = nR r l + (if s.1 = r then 1 else 0) := by
 unfold nR
 rw [ofR_append]
 by_cases h : s.1 = r
 · rw [ofR_cons_same h, if_pos h]; simp [ofR]
 · rw [ofR_cons_other h, if_neg h]; simp [ofR]
theorem nR_nonneg (r : Int) (l : List (Int × Int)) : 0 ≤ nR r l := by unfold nR; omega
def stB (t : List Rq) (pre : List (Int × Int)) (s : Int × Int) : Bool := inT t s.1 && (decide (s.2 = 0) || decide (s.2 = 1)) && decide (nR s.1 pre = s.2)
theorem stB_iff {t : List Rq} {pre : List (Int × Int)} {s : Int × Int} : stB t pre s = true ↔ (0 ≤ s.1 ∧ s.1 < t.length) ∧ (s.2 = 0 ∨ s.2 = 1) ∧ nR s.1 pre = s.2 := by
 simp only [stB, inT, Bool.and_eq_true, Bool.or_eq_true, decide_eq_true_eq, and_assoc]
abbrev Pace := Nat → Vi → Int → Int × Bool
def earlyP : Pace := fun _ x n => (max n x.we + x.sv, decide (n ≤ x.wl))
def noTm : Tm := ⟨0, 0, 0⟩
def tmAt (ts : List Tm) (k : Nat) : Tm := (ts[k]?).getD noTm
def keptB (x : Vi) (n : Int) (y : Tm) : Bool := decide (n ≤ y.ar) && decide (y.ar ≤ y.be) && (decide (x.we ≤ y.be) && decide (y.be ≤ x.wl)) && decide (y.lv = y.be + x.sv)
def keptP (ts : List Tm) : Pace := fun k x n => ((tmAt ts k).lv, keptB x n (tmAt ts k))
def goP (P : Pace) (k : Nat) (a : Sp) (x : Vi) : Sp := ⟨(P k x (arV a x)).1, x.px, x.py⟩
def srvV (v : Vh) (t : List Rq) (P : Pace) (pre : List (Int × Int)) (a : Sp) (s : Int × Int) : Int :=
 if 16 ≤ pre.length then 11 else if stB t pre s = false then 8 else if v.cp < acc t (pre ++ [s]) then 10 else if (P pre.length (visV t s) (arV a (visV t s))).2 = false then 9 else 0
def walkV (v : Vh) (t : List Rq) (P : Pace) : List (Int × Int) → Sp → List (Int × Int) → Int × Nat × Sp
 | pre, a, [] => (0, pre.length, a)
 | pre, a, s :: rest => if srvV v t P pre a s = 0 then walkV v t P (pre ++ [s]) (goP P pre.length a (visV t s)) rest else (srvV v t P pre a s, pre.length, a)
def homeE (v : Vh) (t : List Rq) (l : List (Int × Int)) (a : Sp) : Int := if 0 < acc t l then 8 else if v.en < arV a (homeV v) then 9 else 0
def fstBad : Nat → List Rq → Int
 | _, [] => -1
 | k, q :: t => if q.chk = 0 then fstBad (k + 1) t else k
def badK (t : List Rq) : Int := fstBad 0 t
def lookV (v : Vh) (l : List (Int × Int)) (t : List Rq) (P : Pace) : Int × Int × Int :=
 if v.chk ≠ 0 then (2, 0, 0) else if 0 ≤ badK t then (2, 1, badK t) else
  let y := walkV v t P [] (sp0 v) l
  if y.1 ≠ 0 then (y.1, 2, (y.2.1 : Int)) else (homeE v t l y.2.2, 3, (l.length : Int))
def faultV (v : Vh) (l : List (Int × Int)) (t : List Rq) : Int × Int × Int := if (lookV v l t earlyP).1 = 0 then (0, 0, 0) else lookV v l t earlyP
def rightB (v : Vh) (l : List (Int × Int)) (t : List Rq) (ts : List Tm) : Bool := decide (ts.length = l.length) && decide ((lookV v l t (keptP ts)).1 = 0)
theorem fstBad_all : ∀ {t : List Rq} {k : Nat}, (∀ q ∈ t, q.chk = 0) → fstBad k t = -1
 | [], k, _ => rfl
 | q :: t, k, h => by
  rw [fstBad, if_pos (h q (List.mem_cons_self ..)), fstBad_all fun x hx => h x (List.mem_cons_of_mem _ hx)]
theorem fstBad_at {q : Rq} (hq : q.chk ≠ 0) : ∀ {pre rest : List Rq} {k : Nat}, (∀ x ∈ pre, x.chk = 0) → fstBad k (pre ++ q :: rest) = (k + pre.length : Nat)
 | [], rest, k, _ => by rw [List.nil_append, fstBad, if_neg hq]; simp
 | x :: pre, rest, k, h => by
  rw [List.cons_append, fstBad, if_pos (h x (List.mem_cons_self ..)), fstBad_at hq fun y hy => h y (List.mem_cons_of_mem _ hy)]
  simp
  omega
theorem badK_all {t : List Rq} (h : ∀ q ∈ t, q.chk = 0) : badK t = -1 := fstBad_all h
theorem badK_ok {t : List Rq} : badK t < 0 ↔ ∀ q ∈ t, q.chk = 0 := by
 constructor
 · intro h q hq
   rcases Decidable.em (∀ x ∈ t, x.chk = 0) with h1 | h1
   · exact h1 q hq
   · exfalso
     have : ∃ pre x rest, t = pre ++ x :: rest ∧ x.chk ≠ 0 ∧ ∀ y ∈ pre, y.chk = 0 := by
      clear h hq
      induction t with
      | nil => exact absurd (fun x hx => by cases hx) h1
      | cons x t ih =>
       by_cases hx : x.chk = 0
       · obtain ⟨pre, y, rest, e, h2, h3⟩ := ih (fun h2 => h1 fun z hz => by
          rcases List.mem_cons.1 hz with rfl | hz
          · exact hx
          · exact h2 z hz)
         exact ⟨x :: pre, y, rest, by rw [e]; rfl, h2, fun z hz => by
          rcases List.mem_cons.1 hz with rfl | hz
          · exact hx
          · exact h3 z hz⟩
       · exact ⟨[], x, t, rfl, hx, fun y hy => by cases hy⟩
     obtain ⟨pre, x, rest, rfl, h2, h3⟩ := this
     have h4 := fstBad_at h2 (rest := rest) (k := 0) h3
     unfold badK at h
     rw [h4] at h
     omega
 · intro h
   rw [badK_all h]
   omega
theorem walkV_stop {v : Vh} {t : List Rq} {P : Pace} {pre : List (Int × Int)} {a : Sp} {s : Int × Int} {rest : List (Int × Int)} (h : srvV v t P pre a s ≠ 0) : walkV v t P pre a (s :: rest) = (srvV v t P pre a s, pre.length, a) := by rw [walkV, if_neg h]
theorem walkV_go {v : Vh} {t : List Rq} {P : Pace} {pre : List (Int × Int)} {a : Sp} {s : Int × Int} {rest : List (Int × Int)} (h : srvV v t P pre a s = 0) : walkV v t P pre a (s :: rest) = walkV v t P (pre ++ [s]) (goP P pre.length a (visV t s)) rest := by rw [walkV, if_pos h]
theorem srv_bits {v : Vh} {t : List Rq} {P : Pace} {pre : List (Int × Int)} {a : Sp} {s : Int × Int} : srvV v t P pre a s = 0 ↔ pre.length < 16 ∧ stB t pre s = true ∧ acc t (pre ++ [s]) ≤ v.cp ∧ (P pre.length (visV t s) (arV a (visV t s))).2 = true := by
 unfold srvV
 constructor
 · intro h
   split at h
   · omega
   rename_i h1
   split at h
   · omega
   rename_i h2
   split at h
   · omega
   rename_i h3
   split at h
   · omega
   rename_i h4
   exact ⟨by omega, by simpa using h2, by omega, by simpa using h4⟩
 · rintro ⟨h1, h2, h3, h4⟩
   rw [if_neg (by omega), if_neg (by simp [h2]), if_neg (by omega), if_neg (by simp [h4])]
end Go.Proofs.YteclpblfleakhaaGreatDoor.Feas

/-
  The iterator of package place: a closure that goes through a part of a way, and the function that goes through both parts.
-/
import Derived.Test.YtjojdfbjecbhnaaSeq
import Derived.Test.YtjojdfbjecbhnaaMem
import Derived.Test.YtjojdfbjecbhnaaPlaceCalls2
namespace Go.Proofs.Ytjojdfbjecbhnaa.Place
open Go.RowKit Go.Shelf Go.Proofs.Ytjojdfbjecbhnaa.Seq Go.Proofs.Ytjojdfbjecbhnaa.Mem
set_option linter.unusedVariables false

attribute [local go_sem] Oper.semAt_some

/-- A place as it is handed to a round. -/
def encP (p : Int × Int) : Array Value := #[.agg #[.int .i64 p.1, .int .i64 p.2]]

/-- The number that a cell holds. -/
def numAt (W : World) (a : Addr) : Int := match W.cell? a with
  | some (.int _ n) => n
  | _ => 0

/-- From block B on nothing has turned but block b. -/
structure KeptBut (B b : Nat) (W W' : World) : Prop where
  size : W.heap.size ≤ W'.heap.size
  same : ∀ k, B ≤ k → k < W.heap.size → k ≠ b → W'.heap[k]? = W.heap[k]?
theorem KeptBut.refl (B b : Nat) (W : World) : KeptBut B b W W := ⟨Nat.le_refl _, fun _ _ _ _ => rfl⟩
theorem KeptBut.trans {B b : Nat} {X Y Z : World} (h : KeptBut B b X Y) (k : KeptBut B b Y Z) : KeptBut B b X Z :=
  ⟨Nat.le_trans h.size k.size, fun i hB hi hn => (k.same i hB (Nat.lt_of_lt_of_le hi h.size) hn).trans (h.same i hB hi hn)⟩
theorem KeptBut.kept {B b : Nat} {X Y : World} (h : Kept B X Y) : KeptBut B b X Y := ⟨h.size, fun i hB hi _ => h.same i hB hi⟩
theorem KeptBut.setCell {B b : Nat} (W : World) (i : Nat) (v : Value) : KeptBut B b W (W.setCell ⟨b, i, none⟩ v) := ⟨by simp, fun k hB hk hn => Below.heap_setCell W _ v k (by simpa using hn)⟩
theorem KeptBut.below {B b : Nat} {W W' : World} (h : Below W.heap.size W W') : KeptBut B b W W' := ⟨h.size, fun k _ hk _ => h.block k hk⟩
theorem At.kept {B : Nat} {w v : World} {g : Nat} {t : TypeId} {cs : Array Value} (h : At w g t cs) (hk : Kept B w v) (hg : B ≤ g) : At v g t cs := (hk.same g hg h.inside).trans h
theorem At.keptBut {B b : Nat} {w v : World} {g : Nat} {t : TypeId} {cs : Array Value} (h : At w g t cs) (hk : KeptBut B b w v) (hg : B ≤ g) (hn : g ≠ b) : At v g t cs := (hk.same g hg h.inside hn).trans h
theorem Old.below {β : Type} {B : Nat} {J : β → World → Prop} (h : Old B J) {s : β} {A A' : World} (hs : J s A) (hb : Below A.heap.size A A') : J s A' :=
  h s A A' none hs ⟨hb.os, hb.tape, hb.output, hb.size, fun k hk _ => hb.block k hk⟩ (fun r e => by cases e)

set_option maxRecDepth 100000 in
set_option maxHeartbeats 4000000 in
theorem part_in (n : Nat) (hn : 1 ≤ n) (l Ba By B N : Nat) (J : List (Int × Int) → World → Prop) (q : Nat → Int × Int) (lo hi : Nat) (hlh : lo ≤ hi) (hN : hi ≤ N)
    (hside : ∀ i, lo ≤ i → i ≤ hi → mayB (q i) = true) (hne : ∀ i, lo ≤ i → i < hi → ((q i).1 == (q hi).1) = false ∨ ((q i).2 == (q hi).2) = false)
    (hstep : ∀ i, lo ≤ i → i < hi → (q i).1 + cmpV (q hi).1 (q i).1 = (q (i + 1)).1 ∧ (q i).2 + cmpV (q hi).2 (q i).2 = (q (i + 1)).2)
    (hgap : ∀ i, lo ≤ i → i < hi → gap (q (i + 1)).1 (q hi).1 + gap (q (i + 1)).2 (q hi).2 < gap (q i).1 (q hi).1 + gap (q i).2 (q hi).2)
    (hpos : ∀ i, lo ≤ i → i ≤ hi → 0 ≤ gap (q i).1 (q hi).1 + gap (q i).2 (q hi).2)
    (hJ : Old B J) (hY : ∀ (m : Nat) pre x A, J pre A → pre.length < N → B ≤ A.heap.size → YieldAt Fence.wide m Try.prog l (encP x) A fun e A' => e = .returned (.bool true) ∧ J (pre ++ [x]) A' ∧ Kept B A A')
    (hBa : B ≤ Ba) (hBy : B ≤ By) (hab : Ba ≠ By) (W : World) (ha : At W Ba 23 #[.int .i64 (q lo).1, .int .i64 (q lo).2]) (hy : At W By 27 #[.func (.yield l) #[] #[]]) (h0 : J ((List.range lo).map q) W) :
    CallsIn Fence.wide n Try.prog 26 #[.agg #[.int .i64 (q hi).1, .int .i64 (q hi).2], .pointer (some ⟨Ba, 0, none⟩), .pointer (some ⟨By, 0, none⟩)] W fun e W' =>
      e = .returned (.bool true) ∧ J ((List.range hi).map q) W' ∧ At W' Ba 23 #[.int .i64 (q hi).1, .int .i64 (q hi).2] ∧ KeptBut B Ba W W' := by
  refine callsIn_of_wp Try.func26 rfl trivial ?_ rfl
  simp only [Try.ntmps26, List.size_toArray, List.length_cons, List.length_nil, Nat.reduceAdd, Nat.reduceSub, Array.replicate_succ, Array.replicate_zero, List.push_toArray, List.append_toArray, List.nil_append, List.cons_append]
  gi_wp2
  obtain ⟨V, hV⟩ : ∃ V, W.alloc (.cells #[.int .i64 (q hi).1, .int .i64 (q hi).2] 23) = V := ⟨_, rfl⟩
  have hBW : B ≤ W.heap.size := Nat.le_trans hBa (Nat.le_of_lt ha.inside)
  have hE : At V W.heap.size 23 #[.int .i64 (q hi).1, .int .i64 (q hi).2] := by rw [← hV]; exact At.new W _ _
  have haV : At V Ba 23 #[.int .i64 (q lo).1, .int .i64 (q lo).2] := by rw [← hV]; exact ha.alloc _
  have hyV : At V By 27 #[.func (.yield l) #[] #[]] := by rw [← hV]; exact hy.alloc _
  have h0V : J ((List.range lo).map q) V := by rw [← hV]; exact hJ.new h0 _
  have hkV : KeptBut B Ba W V := by rw [← hV]; exact .kept (Kept.alloc B W _)
  have hea : W.heap.size ≠ Ba := fun e => by have := ha.inside; omega
  rw [hV]
  clear hV
  gi_loopw [5] (fun _ wr => ∃ i, lo ≤ i ∧ i ≤ hi ∧ J ((List.range i).map q) wr ∧ At wr Ba 23 #[.int .i64 (q i).1, .int .i64 (q i).2] ∧ KeptBut B Ba V wr)
    (fun _ wr => (gap (numAt wr ⟨Ba, 0, none⟩) (q hi).1 + gap (numAt wr ⟨Ba, 1, none⟩) (q hi).2).toNat)
  case atStart => exact ⟨lo, Nat.le_refl _, hlh, h0V, haV, KeptBut.refl _ _ _⟩
  case round =>
    obtain ⟨i, hli, hih, hJi, hai, hki⟩ := hrel
    have hEi := At.keptBut hE hki hBW hea
    have hyi := At.keptBut hyV hki hBy (Ne.symm hab)
    have c1 := hai.cell 0
    have c2 := hai.cell 1
    have c3 := hEi.cell 0
    have c4 := hEi.cell 1
    have c5 := hyi.cell 0
    simp at c1 c2 c3 c4 c5
    by_cases hlt : i < hi
    · have hsi := (mayB_iff _).1 (hside i hli hih)
      obtain ⟨fn, tmps, assign, body, hyy, hR⟩ := hY (n - 1) _ (q i) wr hJi (by simp; omega) (Nat.le_trans hBW (Nat.le_trans hkV.size hki.size))
      dsimp only [encP] at hyy
      have hst := Lib.hid (hstep i hli hlt)
      have hg1 := Lib.hid (hgap i hli hlt)
      have hp1 := Lib.hid (hpos (i + 1) (by omega) (by omega))
      have hm1 : numAt wr ⟨Ba, 0, none⟩ = (q i).1 := by simp [numAt, c1]
      have hm2 : numAt wr ⟨Ba, 1, none⟩ = (q i).2 := by simp [numAt, c2]
      rw [hm1, hm2]
      clear hm1 hm2
      have hnei := hne i hli hlt
      clear hne hstep hgap hpos hside hY
      have hne2 : ((q i).1 == (q hi).1) = false ∨ ((q i).1 == (q hi).1) = true ∧ ((q i).2 == (q hi).2) = false := by
        cases h : ((q i).1 == (q hi).1)
        · exact .inl rfl
        · rw [h] at hnei
          exact .inr ⟨rfl, hnei.resolve_left (by simp)⟩
      clear hnei
      have hsz : W.heap.size ≤ wr.heap.size := Nat.le_trans hkV.size hki.size
      have goes : ∀ W3, J (List.map q (List.range i) ++ [q i]) W3 → Kept B wr W3 → ∀ w4, Below W3.heap.size W3 w4 →
          J ((List.range (i + 1)).map q) ((w4.setCell ⟨Ba, 0, none⟩ (.int .i64 ((q i).1 + cmpV (q hi).1 (q i).1))).setCell ⟨Ba, 1, none⟩ (.int .i64 ((q i).2 + cmpV (q hi).2 (q i).2))) ∧
          At ((w4.setCell ⟨Ba, 0, none⟩ (.int .i64 ((q i).1 + cmpV (q hi).1 (q i).1))).setCell ⟨Ba, 1, none⟩ (.int .i64 ((q i).2 + cmpV (q hi).2 (q i).2))) Ba 23 #[.int .i64 (q (i + 1)).1, .int .i64 (q (i + 1)).2] ∧
          KeptBut B Ba V ((w4.setCell ⟨Ba, 0, none⟩ (.int .i64 ((q i).1 + cmpV (q hi).1 (q i).1))).setCell ⟨Ba, 1, none⟩ (.int .i64 ((q i).2 + cmpV (q hi).2 (q i).2))) := by
        intro W3 h1 h2 w4 h3
        refine ⟨?_, ?_, ?_⟩
        · rw [List.range_succ, List.map_append]
          exact hJ.set (hJ.set (Old.below hJ h1 h3) hBa _) hBa _
        · have ha4 := (At.kept hai h2 hBa).keep h3 (At.kept hai h2 hBa).inside
          have := (ha4.put 0 (.int .i64 ((q i).1 + cmpV (q hi).1 (q i).1))).put 1 (.int .i64 ((q i).2 + cmpV (q hi).2 (q i).2))
          rw [hst.out.1, hst.out.2] at this
          rw [hst.out.1, hst.out.2]
          simpa using this
        · exact (((hki.trans (.kept h2)).trans (.below h3)).trans (KeptBut.setCell _ _ _)).trans (KeptBut.setCell _ _ _)
      have goes' := Lib.hid goes
      clear goes
      rcases hne2 with hne2 | ⟨hne2, hne3⟩
      all_goals
        gi_wp2
        refine hR.mono ?_
        rintro e W3 ⟨rfl, hJ3, hk3⟩
        have ha3 := At.kept hai hk3 hBa
        have hE3 := At.kept hEi hk3 hBW
        have d1 := ha3.cell 0
        have d2 := ha3.cell 1
        have d3 := hE3.cell 0
        have d4 := hE3.cell 1
        simp at d1 d2 d3 d4
        gi_wp2_with fail
        refine ⟨trivial, ?_⟩
        refine (callsIn_wide.2 (closer_any _ _ _ _ hsi.1 hsi.2 _)).mono ?_
        rintro e w4 ⟨rfl, hb4⟩
        have hgo := goes'.out W3 hJ3 hk3 w4 hb4
        have ha4 := ha3.keep hb4 ha3.inside
        have f1 := ha4.cell 0
        have f2 := ha4.cell 1
        have f3 := ha4.free 0
        have f4 := ha4.free 1
        simp at f1 f2
        have hgo' := Lib.hid hgo
        clear hgo goes'
        gi_wp2
        go_roundw
        case rel => exact ⟨i + 1, by omega, by omega, hgo'.out.1, hgo'.out.2.1, hgo'.out.2.2⟩
        case measure =>
          have := hst.out
          have := hg1.out
          have := hp1.out
          have g1 : numAt ((w4.setCell ⟨Ba, 0, none⟩ (.int .i64 ((q i).1 + cmpV (q hi).1 (q i).1))).setCell ⟨Ba, 1, none⟩ (.int .i64 ((q i).2 + cmpV (q hi).2 (q i).2))) ⟨Ba, 0, none⟩ = (q (i + 1)).1 := by
            have := hgo'.out.2.1.cell 0
            simp at this
            simp [numAt, this]
          have g2 : numAt ((w4.setCell ⟨Ba, 0, none⟩ (.int .i64 ((q i).1 + cmpV (q hi).1 (q i).1))).setCell ⟨Ba, 1, none⟩ (.int .i64 ((q i).2 + cmpV (q hi).2 (q i).2))) ⟨Ba, 1, none⟩ = (q (i + 1)).2 := by
            have := hgo'.out.2.1.cell 1
            simp at this
            simp [numAt, this]
          rw [g1, g2]
          omega
    · obtain rfl : i = hi := by omega
      have t1 : ((q i).1 == (q i).1) = true := by simp
      have t2 : ((q i).2 == (q i).2) = true := by simp
      clear hside hne hstep hgap hpos hY
      gi_wp2
      go_ret
      exact ⟨rfl, hJi, hai, hkV.trans hki⟩

end Go.Proofs.Ytjojdfbjecbhnaa.Place

/-
  The contract of package num's Sum, which ranges over a function.
-/
import Derived.RangeFuncNested
import Derived.RangeFuncBound
import Derived.RangeFuncCalls
import Derived.RangeFuncLeaves
import Derived.RangeFuncBox
import Derived.Shelf.Abstract
import Derived.Shelf.RegionOpen
import Derived.WalkKit
import Derived.OwnWalkIn
import Derived.TacticsInMore
import Derived.LoopNIn
import Derived.LoopIn
import Derived.Outline
import Derived.Test.YthipniehnniibaaNumSumMath
import Derived.Test.YthipniehnniibaaNumCalls
namespace Go.Proofs.Ythipniehnniibaa.Num
open Go.RowKit Go.Shelf
set_option linter.unusedVariables false

attribute [local go_sem] Oper.semAt_some

/-- A slice value that holds the numbers xs, in a block below n₀; or it is nil and there are none. -/
def Ints (n₀ : Nat) (W : World) (sv : Value) (xs : List Int) : Prop :=
  (∃ a cap, sv = .slice a 0 cap ∧ xs = []) ∨ ∃ b off cap, sv = .slice (some ⟨b, off, none⟩) xs.length cap ∧ b < n₀ ∧ ∀ j, j < xs.length → W.cell? ⟨b, off + j, none⟩ = some (.int .i64 (xs[j]?.getD 0))
theorem Ints.below {n₀ : Nat} {A B : World} (h : Below n₀ A B) {sv : Value} {xs : List Int} : Ints n₀ A sv xs → Ints n₀ B sv xs
  | .inl e => .inl e
  | .inr ⟨b, off, cap, e, hb, hc⟩ => .inr ⟨b, off, cap, e, hb, fun j hj => (h.cell (p := ⟨b, off + j, none⟩) hb).trans (hc j hj)⟩

theorem Ints.more {n₀ n₁ : Nat} {W : World} {sv : Value} {xs : List Int} (h : Ints n₀ W sv xs) (hn : n₀ ≤ n₁) : Ints n₁ W sv xs := by
  rcases h with h | ⟨b, off, cap, e, hb, hc⟩
  · exact .inl h
  · exact .inr ⟨b, off, cap, e, Nat.lt_of_lt_of_le hb hn, hc⟩

theorem grown_of_below {w w' : World} (h : Below w.heap.size w w') : w.grownBy w' none := ⟨h.os, h.tape, h.output, h.size, fun k hk _ => h.block k hk⟩

set_option maxRecDepth 100000 in
set_option maxHeartbeats 2000000 in
theorem sums1_in (n : Nat) (hn : 1 ≤ n) (l Bs n₀ b off cap : Nat) (xs : List Int) (hreach : xs.length * 8 ≤ 140737488351232) (hb : b < n₀)
    (hxs : ∀ j, j < xs.length → -9223372036854775808 ≤ xs[j]?.getD 0 ∧ xs[j]?.getD 0 ≤ 9223372036854775807) (J Jx : List (Int × Bool) → World → Prop)
    (hY : ∀ pre x W, J pre W → pre.length < xs.length → YieldAt Fence.wide (n - 1) Try.prog l #[.int .i64 x.1, .bool x.2] W fun e W' =>
      (e = .returned (.bool true) ∧ J (pre ++ [x]) W' ∧ Below n₀ W W') ∨ (e = .returned (.bool false) ∧ Jx (pre ++ [x]) W'))
    (W : World) (hn₀ : n₀ ≤ W.heap.size) (hJ : AbidesFrom W.heap.size J) (hBs : W.cell? ⟨Bs, 0, none⟩ = some (.slice (some ⟨b, off, none⟩) xs.length cap)) (hc : ∀ j, j < xs.length → W.cell? ⟨b, off + j, none⟩ = some (.int .i64 (xs[j]?.getD 0))) (h0 : J [] W) :
    CallsIn Fence.wide n Try.prog 32 #[.func (.yield l) #[] #[], .pointer (some ⟨Bs, 0, none⟩)] W fun e W' => (∃ v, e = .returned v) ∧
      ((∃ ys, ys = items 0 xs ∧ J ys W') ∨ (∃ pre, pre <+: items 0 xs ∧ Jx pre W')) := by
  refine callsIn_of_wp Try.func32 rfl trivial ?_ rfl
  simp only [Try.ntmps32, List.size_toArray, List.length_cons, List.length_nil, Nat.reduceAdd, Nat.reduceSub, Array.replicate_succ, Array.replicate_zero, List.push_toArray, List.append_toArray, List.nil_append, List.cons_append]
  gi_wp2
  gi_loopw [3, 4, 9] (fun s f i wr => ∃ k : Nat, k ≤ xs.length ∧ s = .int .i64 (lastV 0 (upto xs k)) ∧ (∃ fb, f = .bool fb) ∧ i = .int .i64 k ∧ J (upto xs k) wr ∧ Below n₀ W wr ∧ W.heap.size ≤ wr.heap.size)
    (fun _ _ i _ => xs.length - (intOf i).toNat)
  case atStart => exact ⟨0, Nat.zero_le _, rfl, ⟨_, rfl⟩, rfl, h0, Below.refl _ _, Nat.le_refl _⟩
  case round =>
    obtain ⟨k, hk, rfl, ⟨fb, rfl⟩, rfl, hJs, hnx, hsz⟩ := hrel
    by_cases hlt : k < xs.length
    · have hcx : wr.cell? ⟨b, off + k, none⟩ = some (.int .i64 (xs[k]?.getD 0)) := (hnx.cell (p := ⟨b, off + k, none⟩) hb).trans (hc k hlt)
      have hsucc := Lib.hid (upto_succ xs hlt)
      have hlen := upto_length xs (Nat.le_of_lt hlt)
      have hlen' : (upto xs k).length < xs.length := by omega
      clear hlen
      have hpre := upto_prefix xs (k + 1)
      have hxk := hxs k (by omega)
      rw [List.getElem?_eq_getElem hlt] at hxk
      have hbd := upto_bd xs k
      obtain ⟨hx1, hx2⟩ := hxk
      obtain ⟨hs1, hs2⟩ := hbd
      gi_wp2
      refine ⟨trivial, ?_⟩
      refine (callsIn_wide.2 (Add_any _ _ hs1 hs2 hx1 hx2 _)).mono ?_
      rintro e w1 ⟨rfl, hb1⟩
      have hJ1 : J (upto xs k) w1 := hJ _ _ _ none hJs (grown_of_below hb1) (fun r e => by cases e)
      obtain ⟨fn, tmps, assign, body, hy, hR⟩ := hY _ (fit (lastV 0 (upto xs k) + xs[k]), inR (lastV 0 (upto xs k) + xs[k])) w1 hJ1 hlen'
      dsimp only at hy
      gi_wp2
      refine hR.mono ?_
      rintro e W3 (⟨rfl, hJ3, hk3⟩ | ⟨rfl, hJx3⟩)
      · gi_wp2
        go_roundw
        case rel => exact ⟨k + 1, by omega, by rw [hsucc.out, lastV_snoc], ⟨_, rfl⟩, by simp, by rw [hsucc.out]; exact hJ3, (hnx.trans (hb1.mono (Nat.le_trans hn₀ hsz))).trans hk3, Nat.le_trans hsz (Nat.le_trans hb1.size hk3.size)⟩
        case measure => simp [intOf]; omega
      · gi_wp2
        refine bodyPost_ret (results_none rfl _ _ _) rfl ?_
        exact ⟨⟨_, rfl⟩, .inr ⟨_, by rw [hsucc.out] at hpre; exact hpre, hJx3⟩⟩
    · obtain rfl : k = xs.length := by omega
      have hall := upto_all xs
      have hall' := Lib.hid hall
      clear hall
      gi_wp2
      go_end0
      exact ⟨⟨_, rfl⟩, .inl ⟨_, rfl, by rw [← hall'.out]; exact hJs⟩⟩

set_option maxRecDepth 100000 in
set_option maxHeartbeats 1000000 in
theorem sums1_nil_in (n : Nat) (l Bs : Nat) (a : Option Addr) (cap : Nat) (J : List (Int × Bool) → World → Prop) (W : World) (hBs : W.cell? ⟨Bs, 0, none⟩ = some (.slice a 0 cap)) (h0 : J [] W) :
    CallsIn Fence.wide n Try.prog 32 #[.func (.yield l) #[] #[], .pointer (some ⟨Bs, 0, none⟩)] W fun e W' => (∃ v, e = .returned v) ∧ J [] W' := by
  refine callsIn_of_wp Try.func32 rfl trivial ?_ rfl
  simp only [Try.ntmps32, List.size_toArray, List.length_cons, List.length_nil, Nat.reduceAdd, Nat.reduceSub, Array.replicate_succ, Array.replicate_zero, List.push_toArray, List.append_toArray, List.nil_append, List.cons_append]
  gi_wp2
  gi_loopw [9] (fun i wr => i = .int .i64 0 ∧ J [] wr) (fun _ _ => 0)
  case atStart => exact ⟨rfl, h0⟩
  case round =>
    obtain ⟨rfl, hJs⟩ := hrel
    gi_wp2
    go_end0
    exact ⟨⟨_, rfl⟩, hJs⟩

theorem sums_stops (n : Nat) (hn : 1 ≤ n) (Bs n₀ : Nat) (sv : Value) (xs : List Int) (hreach : xs.length * 8 ≤ 140737488351232)
    (hxs : ∀ j, j < xs.length → -9223372036854775808 ≤ xs[j]?.getD 0 ∧ xs[j]?.getD 0 ≤ 9223372036854775807) (w : World) (hBs : Bs < w.heap.size) (hn₀ : n₀ ≤ w.heap.size)
    (hc : w.cell? ⟨Bs, 0, none⟩ = some sv) (hI : Ints n₀ w sv xs) :
    SeqStopsK Fence.wide n Try.prog 32 #[.pointer (some ⟨Bs, 0, none⟩)] (fun x : Int × Bool => #[Value.int .i64 x.1, Value.bool x.2]) (Below n₀) (fun ys => ys = items 0 xs) (fun pre => pre <+: items 0 xs) xs.length w := fun l J Jx W hW hJ _ hY h0 => by
  have hc' := (hW.cell (p := ⟨Bs, 0, none⟩) hBs).trans hc
  rcases hI.below (hW.mono hn₀) with ⟨a, cap, rfl, rfl⟩ | ⟨b, off, cap, rfl, hb, hcs⟩
  · exact (sums1_nil_in n l Bs a cap J W hc' h0).mono fun e W' ⟨he, hj⟩ => ⟨he, .inl ⟨_, rfl, hj⟩⟩
  · exact sums1_in n hn l Bs n₀ b off cap xs hreach hb hxs J Jx hY W (Nat.le_trans hn₀ hW.size) hJ hc' hcs h0

theorem sumsSoFar_any (a : Option Addr) (len cap : Nat) (w : World) :
    Calls Try.prog 29 #[.slice a len cap] w fun e w' => e = .returned (.func (.func 32) #[] #[.pointer (some ⟨w.heap.size, 0, none⟩)]) ∧ w.alloc (.cells #[.slice a len cap] 38) = w' := by
  go_enter Try.func29, Try.ntmps29
  go_wp2
  go_ret
  exact ⟨rfl, rfl⟩

theorem Ints.slice {n₀ : Nat} {W : World} {sv : Value} {xs : List Int} (h : Ints n₀ W sv xs) : ∃ a cap, sv = .slice a xs.length cap := by
  rcases h with ⟨a, cap, rfl, rfl⟩ | ⟨b, off, cap, rfl, _⟩
  · exact ⟨a, cap, rfl⟩
  · exact ⟨_, _, rfl⟩

/-- Where Sum's three variables lie, and what they hold. -/
def Vars (B : Nat) (n r : Int) (f : Bool) (V : World) : Prop :=
  V.cell? ⟨B + 1 + 1, 0, none⟩ = some (.int .i64 n) ∧ V.frozen? ⟨B + 1 + 1, 0, none⟩ = false ∧
  V.cell? ⟨B, 0, none⟩ = some (.int .i64 r) ∧ V.frozen? ⟨B, 0, none⟩ = false ∧
  V.cell? ⟨B + 1, 0, none⟩ = some (.bool f) ∧ V.frozen? ⟨B + 1, 0, none⟩ = false
theorem Vars.own {B : Nat} {n r : Int} {f : Bool} {A A' : World} {row : Option Nat} (h : Vars B n r f A) (hg : A.grownBy A' row) (hr : ∀ r, row = some r → ∃ o : Obj, A.heap[r]? = some o ∧ o.isCells = false) : Vars B n r f A' := by
  obtain ⟨h1, h2, h3, h4, h5, h6⟩ := h
  exact ⟨cell_kept h1 hg hr, (frozen_kept h1 hg hr).trans h2, cell_kept h3 hg hr, (frozen_kept h3 hg hr).trans h4, cell_kept h5 hg hr, (frozen_kept h5 hg hr).trans h6⟩
theorem Vars.set2 {B : Nat} {n r : Int} {f : Bool} {V : World} (h : Vars B n r f V) (r' : Int) (f' : Bool) :
    Vars B n r' f' ((V.setCell ⟨B, 0, none⟩ (.int .i64 r')).setCell ⟨B + 1, 0, none⟩ (.bool f')) := by
  obtain ⟨h1, h2, h3, h4, h5, h6⟩ := h
  refine ⟨?_, ?_, ?_, ?_, ?_, ?_⟩ <;> go_simp
theorem Vars.set3 {B : Nat} {n r : Int} {f : Bool} {V : World} (h : Vars B n r f V) (n' : Int) :
    Vars B n' r f (V.setCell ⟨B + 1 + 1, 0, none⟩ (.int .i64 n')) := by
  obtain ⟨h1, h2, h3, h4, h5, h6⟩ := h
  refine ⟨?_, ?_, ?_, ?_, ?_, ?_⟩ <;> go_simp
def Inv (w : World) (pre : List (Int × Bool)) (V : World) : Prop := ((∀ p ∈ pre, p.2 = true) ∧ Vars w.heap.size (lastV 0 pre) 0 false V) ∧ Below w.heap.size w V
def Left (w : World) (c : Code) (pre : List (Int × Bool)) (V : World) : Prop := (c = .ret ∧ (∃ p ∈ pre, p.2 = false) ∧ ∃ n, Vars w.heap.size n 0 false V) ∧ Below w.heap.size w V
theorem Inv.own (w : World) {B : Nat} (hB : w.heap.size ≤ B) : OwnFrom B (Inv w) :=
  OwnFrom.and (Own.from (fun s A A' row hs hg hr => ⟨hs.1, hs.2.own hg hr⟩) _) (ownFrom_below (Nat.le_refl _) hB)
theorem Left.own (w : World) {B : Nat} (hB : w.heap.size ≤ B) (c : Code) : OwnFrom B (Left w c) :=
  OwnFrom.and (Own.from (fun s A A' row hs hg hr => ⟨hs.1, hs.2.1, hs.2.2.choose, hs.2.2.choose_spec.own hg hr⟩) _) (ownFrom_below (Nat.le_refl _) hB)

set_option maxRecDepth 100000 in
set_option maxHeartbeats 2000000 in
theorem Sum_any (sv : Value) (xs : List Int) (hreach : xs.length * 8 ≤ 140737488351232)
    (hxs : ∀ j, j < xs.length → -9223372036854775808 ≤ xs[j]?.getD 0 ∧ xs[j]?.getD 0 ≤ 9223372036854775807) (w : World) (hI : Ints w.heap.size w sv xs) :
    Calls Try.prog 17 #[sv] w fun e w' => e = .returned (.tuple #[.int .i64 (sumV xs), .bool (sumB xs)]) ∧ Below w.heap.size w w' := by
  obtain ⟨a, cap, rfl⟩ := hI.slice
  refine (callsIn_wide (n := 3)).1 ?_
  refine callsIn_of_wp_marks Try.func17 rfl trivial ?_ rfl
  simp only [Try.ntmps17, List.size_toArray, List.length_cons, List.length_nil, Nat.reduceAdd, Nat.reduceSub, Array.replicate_succ, Array.replicate_zero, List.push_toArray, List.append_toArray, List.nil_append, List.cons_append]
  gi_wp2
  refine ⟨trivial, ?_⟩
  refine (callsIn_wide.2 (sumsSoFar_any _ _ _ _)).mono ?_
  rintro e w1 ⟨rfl, rfl⟩
  gi_wp2
  have hbW : Below w.heap.size w ((((w.alloc (Obj.cells #[Value.int IntKind.i64 0] 2)).alloc (Obj.cells #[Value.bool false] 4)).alloc (Obj.cells #[Value.int IntKind.i64 0] 2)).alloc (Obj.cells #[Value.slice a xs.length cap] 38)) :=
    ((((Below.refl _ _).alloc (Nat.le_refl _) _).alloc (by simp) _).alloc (by simp; omega) _).alloc (by simp; omega) _
  have hvW : Vars w.heap.size 0 0 false ((((w.alloc (Obj.cells #[Value.int IntKind.i64 0] 2)).alloc (Obj.cells #[Value.bool false] 4)).alloc (Obj.cells #[Value.int IntKind.i64 0] 2)).alloc (Obj.cells #[Value.slice a xs.length cap] 38)) := by
    refine ⟨?_, ?_, ?_, ?_, ?_, ?_⟩ <;> go_simp
  have hsW : ((((w.alloc (Obj.cells #[Value.int IntKind.i64 0] 2)).alloc (Obj.cells #[Value.bool false] 4)).alloc (Obj.cells #[Value.int IntKind.i64 0] 2)).alloc (Obj.cells #[Value.slice a xs.length cap] 38)).heap.size = w.heap.size + 4 := by simp
  have hcW : ((((w.alloc (Obj.cells #[Value.int IntKind.i64 0] 2)).alloc (Obj.cells #[Value.bool false] 4)).alloc (Obj.cells #[Value.int IntKind.i64 0] 2)).alloc (Obj.cells #[Value.slice a xs.length cap] 38)).cell? ⟨w.heap.size + 1 + 1 + 1, 0, none⟩ = some (Value.slice a xs.length cap) := by go_simp
  generalize ((((w.alloc (Obj.cells #[Value.int IntKind.i64 0] 2)).alloc (Obj.cells #[Value.bool false] 4)).alloc (Obj.cells #[Value.int IntKind.i64 0] 2)).alloc (Obj.cells #[Value.slice a xs.length cap] 38)) = W at *
  have hsz : w.heap.size ≤ W.heap.size := by omega
  refine wpIn_rangeFunc_ownF rfl (by omega) (gf := 32) (lb := #[.pointer (some ⟨w.heap.size + 1 + 1 + 1, 0, none⟩)]) rfl trivial (enters_of Try.func32 (by kernel_rfl) rfl)
    (sums_stops (3 - 1) (by omega) (w.heap.size + 1 + 1 + 1) w.heap.size _ xs hreach hxs W (by omega) hsz hcW (hI.below hbW)) belowK_t (belowK_b hsz) (Below.refl _ _) (fun _ => rfl)
    (Inv w) (Left w) (Inv.own w hsz) (fun c => Left.own w hsz c) ⟨⟨fun p hp => (by cases hp), hvW⟩, hbW⟩
    (fun x => { tmps := #[Value.slice a xs.length cap, undef, Value.pointer (some { block := w.heap.size, off := 0 }),
          Value.pointer (some { block := w.heap.size + 1, off := 0 }),
          Value.pointer (some { block := w.heap.size + 1 + 1, off := 0 }), .int .i64 x.1, .bool x.2, Value.slice a xs.length cap,
          Value.func (Fn.func 32) #[] #[Value.pointer (some { block := w.heap.size + 1 + 1 + 1, off := 0 })], .int .i64 x.1, .bool x.2, undef, undef, undef, undef], defers := [] }) ?assign ?body ?done ?stop
  case assign =>
    intro l x V K hK
    gi_wp2
    exact hK
  case body =>
    rintro l pre ⟨n, f⟩ V ⟨⟨hall, h1, h2, h3, h4, h5, h6⟩, hB⟩ _
    cases f
    · gi_wp2
      refine ⟨(KeepsOthers.setCell _ _ _).trans (KeepsOthers.setCell _ _ _), ⟨rfl, ⟨_, List.mem_append_right _ (List.mem_singleton.2 rfl), rfl⟩, lastV 0 pre, Vars.set2 ⟨h1, h2, h3, h4, h5, h6⟩ 0 false⟩,
        (hB.setCell (Nat.le_refl _) _).setCell (by simp) _⟩
    · gi_wp2
      refine ⟨KeepsOthers.setCell _ _ _, (Below.refl _ V).setCell (by simp; omega) _, ⟨?_, ?_⟩, hB.setCell (by simp; omega) _⟩
      · intro p hp
        rcases List.mem_append.1 hp with hp | hp
        · exact hall p hp
        · rw [List.mem_singleton.1 hp]
      · rw [lastV_snoc]
        exact Vars.set3 ⟨h1, h2, h3, h4, h5, h6⟩ n
  case done =>
    rintro D ys V hD rfl ⟨⟨hall, h1, h2, h3, h4, h5, h6⟩, hB⟩ hK
    have hy := sumB_of_all hall
    have hv := sumV_yes hy
    have hy' := Lib.hid hy
    have hv' := Lib.hid hv
    clear hy hv
    gi_wp2
    have hd : (V.setCell ⟨w.heap.size, 0, none⟩ (.int .i64 (lastV 0 (items 0 xs)))).heap[D]? = some (.deferred (some [])) := (KeepsOthers.setCell _ _ _).same D _ hK rfl
    have hd2 : ((V.setCell ⟨w.heap.size, 0, none⟩ (.int .i64 (lastV 0 (items 0 xs)))).setCell ⟨w.heap.size + 1, 0, none⟩ (.bool true)).heap[D]? = some (.deferred (some [])) := (KeepsOthers.setCell _ _ _).same D _ hd rfl
    have hb2 : Below w.heap.size w ((V.setCell ⟨w.heap.size, 0, none⟩ (.int .i64 (lastV 0 (items 0 xs)))).setCell ⟨w.heap.size + 1, 0, none⟩ (.bool true)) := (hB.setCell (Nat.le_refl _) _).setCell (by simp) _
    have hv2 := Vars.set2 ⟨h1, h2, h3, h4, h5, h6⟩ (lastV 0 (items 0 xs)) true
    generalize ((V.setCell ⟨w.heap.size, 0, none⟩ (.int .i64 (lastV 0 (items 0 xs)))).setCell ⟨w.heap.size + 1, 0, none⟩ (.bool true)) = V2 at *
    obtain ⟨_, _, g3, _, g5, _⟩ := hv2.own (grownBy_putObj' V2 D (.deferred none)) (fun r e => by cases e; exact ⟨_, hd2, rfl⟩)
    refine ⟨by simp, .inl ⟨_, _, rfl, run_takeDeferred hd2, ?_⟩⟩
    refine ⟨.tuple #[.int .i64 (lastV 0 (items 0 xs)), .bool true], by simp [results, Try.results17, go_sem, g3, g5], by rw [hy'.out, hv'.out], hb2.trans (belowK_b (w := w) (Nat.le_refl _) V2 D _ _ (Nat.le_trans hsz hD) hd2 rfl rfl)⟩
  case stop =>
    rintro D c pre V hD hpre ⟨⟨rfl, ⟨p, hp, hpf⟩, n, h1, h2, h3, h4, h5, h6⟩, hB⟩ hK
    have hy := sumB_no hpre hp hpf
    have hv := sumV_no hy
    have hy' := Lib.hid hy
    have hv' := Lib.hid hv
    clear hy hv hpf
    gi_wp2
    obtain ⟨_, _, g3, _, g5, _⟩ := (show Vars w.heap.size n 0 false V from ⟨h1, h2, h3, h4, h5, h6⟩).own (grownBy_putObj' V D (.deferred none)) (fun r e => by cases e; exact ⟨_, hK, rfl⟩)
    refine ⟨by simp, .inl ⟨_, _, rfl, run_takeDeferred hK, ?_⟩⟩
    refine ⟨.tuple #[.int .i64 0, .bool false], by simp [results, Try.results17, go_sem, g3, g5], by rw [hy'.out, hv'.out], hB.trans (belowK_b (w := w) (Nat.le_refl _) V D _ _ (Nat.le_trans hsz hD) hK rfl rfl)⟩

end Go.Proofs.Ythipniehnniibaa.Num

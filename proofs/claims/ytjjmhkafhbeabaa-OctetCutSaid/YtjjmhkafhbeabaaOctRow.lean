/-
  What parts are put as.
-/
import Derived.Test.YtjjmhkafhbeabaaOctCut
namespace Go.Proofs.Ytjjmhkafhbeabaa.Oct
open Go.RowKit Go.Sort Go.Proofs.Ytjjmhkafhbeabaa.Mem Go.Proofs.Ytjjmhkafhbeabaa.Route
set_option linter.unusedVariables false
attribute [local go_sem] str_append str_from str_to

/-- A part as the law takes it. -/
def PartOk (p : Part) : Prop := p.ok ∧ p.text.length ≤ 300
theorem PartOk.len {p : Part} (h : PartOk p) : p.bytes.length ≤ 302 := by
  have := p.width_le
  have := h.2
  rw [bytes_length]
  split <;> omega
theorem rowL_len : ∀ {l : List Part}, (∀ p ∈ l, PartOk p) → (rowL l).length ≤ l.length * 302
  | [], _ => by simp [rowL]
  | p :: l, h => by
    have h1 := (h p (List.mem_cons_self ..)).len
    have h2 := rowL_len (l := l) fun q hq => h q (List.mem_cons_of_mem _ hq)
    have : rowL (p :: l) = p.bytes ++ rowL l := by simp [rowL]
    rw [this, List.length_append, List.length_cons, Nat.succ_mul]
    omega
set_option maxRecDepth 100000 in
set_option maxHeartbeats 8000000 in
theorem row_any (x : Option Addr) (N cap : Nat) (ps : List Part) (w : World) (hrow : RowB w.heap.size w (.slice x N cap) 4 (ps.map partV)) (hps : ∀ p ∈ ps, PartOk p) (h16 : ps.length ≤ 16) :
    Calls Try.prog 24 #[.slice x N cap] w fun e w' => e = .returned (.tuple #[.string (str (rowL ps)), .bool true]) ∧ Below w.heap.size w w' := by
  have hN : ps.length = N := by
    obtain ⟨x', cap', e, -⟩ := hrow
    cases e
    simp
  have hN16 : N ≤ 16 := by omega
  have hlen := fun i => rowL_len (l := ps.take i) (fun p hp => hps p (List.mem_of_mem_take hp))
  replace hrow := Lib.hid hrow
  replace hN := Lib.hid hN
  replace hlen := Lib.hid hlen
  replace hps := Lib.hid hps
  clear h16
  go_enter Try.func24, Try.ntmps24
  go_wp2_with fail
  go_loopw [4, 5] (fun v c wr => ∃ (i : Nat), c = .int .i64 (i : Int) ∧ i ≤ N ∧ v = .string (str (rowL (ps.take i))) ∧ Hid (Below w.heap.size w wr))
    (fun _ c _ => N - (intOf c).toNat)
  case atStart => exact ⟨0, rfl, by omega, rfl, Lib.hid (Below.refl _ _)⟩
  case round =>
    obtain ⟨wi, hwi⟩ : ∃ wi, wi = wr := ⟨_, rfl⟩
    subst hwi
    obtain ⟨i, rfl, hiN, rfl, hB⟩ := hrel
    have hsz := hB.out.size
    by_cases hlt : i < N
    case neg =>
      obtain rfl : i = N := by omega
      have hf : ps.take i = ps := List.take_of_length_le (by rw [hN.out]; exact Nat.le_refl _)
      rw [hf]
      clear hf hlt
      go_wp2
      go_ret2
      exact ⟨rfl, hB.out⟩
    have hlt' : (i : Int) < (N : Int) := by omega
    obtain ⟨p, hp⟩ : ∃ p, ps[i]? = some p := ⟨_, List.getElem?_eq_getElem (by rw [hN.out]; exact hlt)⟩
    have hpo := hps.out p (List.mem_of_getElem? hp)
    obtain ⟨g, o, rfl, hg, c0, c1, c2, c3⟩ := part_at (hrow.out.keep hB.out (Nat.le_refl _)) hp
    have hsn := Lib.hid (show rowL (ps.take (i + 1)) = rowL (ps.take i) ++ p.bytes by
      rw [List.take_add_one, hp, Option.toList_some]
      exact rowL_snoc _ _)
    have hLl : (rowL (ps.take i)).length ≤ 4832 := by
      have := hlen.out i
      rw [List.length_take] at this
      omega
    obtain ⟨L, hL⟩ : ∃ L, rowL (ps.take i) = L := ⟨_, rfl⟩
    rw [hL] at hsn hLl ⊢
    have hgi : g < wi.heap.size := Nat.lt_of_lt_of_le hg hsz
    clear hL hp
    cases his : p.is
    case true =>
      rw [his] at c3
      have hpt := PutText_any L p.text (by omega) (by have := hpo.2; omega) wi
      have hb : p.bytes = laidL p.text.length 2 ++ p.text := by simp [Part.bytes, his]
      have hlt6 : p.text.length < 65536 := by have := hpo.2; omega
      rw [show ptB L p.text = L ++ p.bytes by simp [ptB, hlt6, hb], show ptE p.text = 0 by simp [ptE, hlt6]] at hpt
      obtain ⟨M, hM⟩ : ∃ M, L ++ p.bytes = M := ⟨_, rfl⟩
      rw [hM] at hpt hsn
      clear hb hlt6 hM his
      go_wp2_with fail
      refine hpt.mono ?_
      clear hpt
      rintro e w1 ⟨rfl, hb1⟩
      have hB1 := Lib.hid (hB.out.trans (hb1.mono hsz))
      clear hb1 hB
      go_wp2_with fail
      go_roundw
      case rel => exact ⟨i + 1, by go_num, by omega, by rw [hsn.out], hB1⟩
      case measure => simp [intOf]; omega
    case false =>
      rw [his] at c3
      have hw8 := p.width_le
      have hiw : isW (p.width : Int) = true := isW_of
      have hnl := Part.num_lt hpo.1
      have hb : p.bytes = laidL p.num p.width := by simp [Part.bytes, his]
      have hpE : putE p.num p.width = 0 := by simp [putE, hiw, hnl]
      have hpB : putB L p.num p.width = L ++ p.bytes := by simp [putB, hiw, hnl, hb]
      have cN := fun d os => Calls.regrown_of (num_any p hpo.1 (grow (redrawn wi d) os))
      have cW := fun d os => Calls.regrown_of (width_any p hpo.1 (grow (redrawn wi d) os))
      have cP := fun d os => Calls.regrown_of (Put_any L p.num p.width (Part.num_lt64 hpo.1) (by omega) (grow (redrawn wi d) os))
      simp only [hpE, hpB] at cP
      rw [his] at cN cW
      obtain ⟨M, hM⟩ : ∃ M, L ++ p.bytes = M := ⟨_, rfl⟩
      simp only [hM] at cP
      rw [hM] at hsn
      have k0 := fun d os => ((below_regrown wi d os).cell (p := ⟨g, o + i * 4, none⟩) hgi).trans c0
      have k1 := fun d os => ((below_regrown wi d os).cell (p := ⟨g, o + i * 4 + 1, none⟩) hgi).trans c1
      have k2 := fun d os => ((below_regrown wi d os).cell (p := ⟨g, o + i * 4 + 2, none⟩) hgi).trans c2
      have k3 := fun d os => ((below_regrown wi d os).cell (p := ⟨g, o + i * 4 + 3, none⟩) hgi).trans c3
      obtain ⟨X, hX⟩ : ∃ X, p.num = X := ⟨_, rfl⟩
      obtain ⟨W, hW⟩ : ∃ W, p.width = W := ⟨_, rfl⟩
      simp only [hX, hW] at cN cW cP
      clear hb hnl hiw hw8 hpE hpB hM hX hW his
      go_upto_region 8 with fail
      refine wp_region_quiet_below (by kernel_rfl) (by kernel_rfl) ?_
      repeat (go_big_quiet_step (first | with_reducible exact cN _ _ | with_reducible exact cW _ _ | with_reducible exact cP _ _))
      refine wpQuiet_nil ?_
      rintro w1 ⟨⟨d, os⟩, rfl⟩
      have hB1 := Lib.hid (hB.out.trans ((below_regrown wi d os).mono hsz))
      dsimp only
      clear hB k0 k1 k2 k3 cN cW cP
      generalize grow (redrawn wi d) os = w1 at hB1 ⊢
      go_wp2_with fail
      go_roundw
      case rel => exact ⟨i + 1, by go_num, by omega, by rw [hsn.out], hB1⟩
      case measure => simp [intOf]; omega

end Go.Proofs.Ytjjmhkafhbeabaa.Oct

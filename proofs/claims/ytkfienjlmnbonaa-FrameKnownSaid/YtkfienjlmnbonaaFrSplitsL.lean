/-
  FrameSplits: frames that are laid one behind the other are split back, and counted.
-/
import Derived.Test.YtkfienjlmnbonaaFrWorks
import Derived.Test.YtkfienjlmnbonaaFrCutL
import Derived.Test.YtkfienjlmnbonaaFrSplitsMath
import Derived.Lib.QuietBelow
namespace Go.Proofs.Ytkfienjlmnbonaa.Fr
open Go.RowKit Go.Sort Go.Shelf Go.Proofs.Ytkfienjlmnbonaa.Mem Go.Proofs.Ytkfienjlmnbonaa.Route Go.Proofs.Ytkfienjlmnbonaa.Oct
set_option linter.unusedVariables false
attribute [local go_sem] str_append str_from str_to

def ptV (p : Pt) : List Value := [.int .u8 (p.k : Int), .string (str p.body)]
theorem rowCut {B : Nat} {W : World} {x : Option Addr} {N cap k m : Nat} {l : List (List Value)} (h : RowB B W (.slice x N cap) m l) (hl : l.length = N) (hk : k ≤ N) : RowB B W (.slice x k cap) m (l.take k) := by
  obtain ⟨x', cap', e, h1, h2, h0, h3⟩ := h
  simp only [Value.slice.injEq] at e
  obtain ⟨rfl, rfl, rfl⟩ := e
  refine ⟨x, cap, by simp; omega, by simp; omega, h2, fun hx => ?_, fun j r hj => ?_⟩
  · have := h0 hx
    simp [this]
  · have hjk : j < k := by
      rcases Nat.lt_or_ge j k with h | h
      · exact h
      · rw [List.getElem?_eq_none (by simp; omega)] at hj; cases hj
    rw [List.getElem?_take_of_lt hjk] at hj
    exact h3 j r hj
/-- The cells of the k-th part. -/
theorem pt_at {B : Nat} {W : World} {x : Option Addr} {n cap : Nat} {l : List Pt} (h : RowB B W (.slice x n cap) 2 (l.map ptV)) {k : Nat} {p : Pt} (hk : l[k]? = some p) :
    ∃ g o, x = some ⟨g, o, none⟩ ∧ g < B ∧ W.cell? ⟨g, o + k * 2, none⟩ = some (.int .u8 (p.k : Int)) ∧ W.cell? ⟨g, o + k * 2 + 1, none⟩ = some (.string (str p.body)) := by
  obtain ⟨g, o, e, hg, hc⟩ := h.row (j := k) (r := ptV p) (by rw [List.getElem?_map, hk]; rfl)
  exact ⟨g, o, e, hg, by simpa using hc 0 _ rfl, hc 1 _ rfl⟩

theorem split_pt {p : Pt} {l : List Pt} (h : p.ok) (hl : (rowF (p :: l)).length ≤ 9223372036854775807) (w : World) :
    Calls Try.prog 14 #[.string (str (rowF (p :: l)))] w fun e w' => e = .returned (.tuple #[.int .i64 (p.k : Int), .string (str p.cut), .string (str (rowF l)), .int .i64 0]) ∧ Below w.heap.size w w' := by
  have h1 := Split_any (rowF (p :: l)) hl w
  simpa only [spK, spB, spR, spE, front_rowF h] using h1
theorem lay_pt {p : Pt} (h : p.ok) (w : World) :
    Calls Try.prog 9 #[.int .i64 (p.k : Int), .string (str p.cut)] w fun e w' => e = .returned (.tuple #[.string (str p.fr), .int .i64 0]) ∧ Below w.heap.size w w' := Lay_ok p.k p.cut h (by have := p.cut_len; omega) w
theorem count_row {l : List Pt} (h : ∀ p ∈ l, p.ok) (hl : (rowF l).length ≤ 9223372036854775807) (w : World) :
    Calls Try.prog 16 #[.string (str (rowF l))] w fun e w' => e = .returned (.tuple #[.int .i64 (l.length : Int), .int .i64 0]) ∧ Below w.heap.size w w' := by
  obtain ⟨fs, h1, h2⟩ := run_rowF l h
  have := Count_any _ _ _ h1 hl w
  rwa [show cnN fs [] = (l.length : Int) by rw [cnN, if_pos rfl, h2], show cnE [] = 0 from rfl] at this
theorem count_cut {l : List Pt} (h : ∀ p ∈ l, p.ok) (hne : l ≠ []) (hl : (rowF l).length ≤ 9223372036854775807) (w : World) :
    Calls Try.prog 16 #[.string (str ((rowF l).take ((rowF l).length - 1)))] w fun e w' => e = .returned (.tuple #[.int .i64 0, .int .i64 14]) ∧ Below w.heap.size w w' := by
  obtain ⟨fs, r, h1, h2⟩ := run_cut l h hne
  have := Count_any _ _ _ h1 (by rw [List.length_take]; omega) w
  rwa [show cnN fs r = 0 by rw [cnN, if_neg h2], show cnE r = 14 by rw [cnE, if_neg h2]] at this
theorem body_min (t : Bs) : ∃ m : Nat, min (t.length : Int) 200 = m ∧ (m : Int) ≤ (t.length : Int) ∧ t.take m = t.take 200 := by
  refine ⟨min t.length 200, by omega, by omega, ?_⟩
  rcases Nat.le_total t.length 200 with h | h
  · rw [List.take_of_length_le (by omega), List.take_of_length_le h]
  · rw [show min t.length 200 = 200 by omega]
set_option maxRecDepth 100000 in
set_option maxHeartbeats 8000000 in
theorem splits_walk (x : Option Addr) (N cap : Nat) (ps : List Pt) (w : World) (hrow : RowB w.heap.size w (.slice x N cap) 2 (ps.map ptV)) (hps : ∀ p ∈ ps, p.ok) :
    Calls Try.prog 7 #[.slice x N cap] w fun e w' => e = .returned (.bool true) ∧ Below w.heap.size w w' := by
  have hN : ps.length = N := by
    obtain ⟨x', cap', e, -⟩ := hrow
    cases e
    simp
  have hNc : N ≤ cap ∧ cap ≤ maxLen := by
    obtain ⟨x', cap', e, h1, h2, -⟩ := hrow
    cases e
    exact ⟨by simpa using h1, h2⟩
  obtain ⟨M, hM⟩ : ∃ M : Nat, min (N : Int) 15 = M := ⟨min N 15, by omega⟩
  have hMN : M ≤ N := by omega
  have hM15 : M ≤ 15 := by omega
  obtain ⟨L, hL⟩ : ∃ L, ps.take M = L := ⟨_, rfl⟩
  have hLM : L.length = M := by rw [← hL, List.length_take]; omega
  have hLok : ∀ p ∈ L, p.ok := fun p hp => hps p (List.mem_of_mem_take (by rw [hL]; exact hp))
  have hrowL : RowB w.heap.size w (.slice x M cap) 2 (L.map ptV) := by
    have := rowCut hrow (by simpa using hN) hMN
    rwa [← List.map_take, hL] at this
  have hNc1 : (N : Int) ≤ (cap : Int) := by omega
  have hMN1 : (M : Int) ≤ (N : Int) := by omega
  have hMc1 : (M : Int) ≤ (cap : Int) := by omega
  have hNc2 : (cap : Int) ≤ maxLen := by omega
  unfold maxLen at hNc2
  replace hN := Lib.hid hN
  replace hrow := Lib.hid hrow
  replace hrowL := Lib.hid hrowL
  replace hLok := Lib.hid hLok
  replace hps := Lib.hid hps
  replace hL := Lib.hid hL
  replace hLM := Lib.hid hLM
  clear hNc
  obtain ⟨n, hn⟩ : ∃ n, w.heap.size = n := ⟨_, rfl⟩
  rw [hn] at hrowL ⊢
  have hB0 : Below n w w := .refl _ _
  have hz0 : n ≤ w.heap.size := by omega
  replace hn := Lib.hid hn
  go_enter Try.func7, Try.ntmps7
  go_wp2_with fail
  refine (works_any _).mono ?_
  rintro e w1 ⟨rfl, hb1⟩
  have hB1 := hB0.trans (hb1.mono hz0)
  have hz1 := Nat.le_trans hz0 hb1.size
  clear hb1 hB0 hz0
  have hLen := Lib.hid rowF_len
  go_wp2_with fail
  go_loopw [3, 4, 5] (fun v z c wr => ∃ (i q : Nat), c = .int .i64 (i : Int) ∧ i ≤ M ∧ v = .string (str (rowF (L.take i))) ∧ z = .int .i64 (q : Int) ∧ Hid (0 < i → 1 ≤ q) ∧ Hid (Below n w wr))
    (fun _ _ c _ => M - (intOf c).toNat)
  case atStart => exact ⟨0, 0, rfl, by omega, rfl, rfl, Lib.hid (fun h => by omega), Lib.hid hB1⟩
  case round =>
    clear hB1 hz1
    obtain ⟨wi, hwi⟩ : ∃ wi, wi = wr := ⟨_, rfl⟩
    subst hwi
    obtain ⟨i, q, rfl, hiM, rfl, rfl, hq, hB⟩ := hrel
    have hsz : n ≤ wi.heap.size := by have := hB.out.size; have := hn.out; omega
    by_cases hlt : i < M
    case neg =>
      obtain rfl : M = i := by omega
      have hf : L.take M = L := List.take_of_length_le (by rw [hLM.out]; exact Nat.le_refl _)
      rw [hf]
      have hlr : (rowF L).length ≤ 3045 := by have := hLen.out L; rw [hLM.out] at this; omega
      have h2 := count_row hLok.out (by omega) wi
      rw [hLM.out] at h2
      clear hf hlt
      go_wp2_with fail
      refine h2.mono ?_
      clear h2
      rintro e w2 ⟨rfl, hb2⟩
      have hB2 := hB.out.trans (hb2.mono hsz)
      have hz2 := Nat.le_trans hsz hb2.size
      clear hb2 hB hsz
      by_cases hi0 : M = 0
      · have hi1 : ¬ (0 : Int) < (M : Int) := by omega
        replace hi0 := Lib.hid hi0
        clear hlr hz2
        go_wp2_with fail
        go_loopw [3, 12] (fun v c wr => ∃ (i : Nat), c = .int .i64 (i : Int) ∧ i ≤ M ∧ v = .string (str (rowF (L.drop i))) ∧ Hid (Below n w wr))
          (fun _ c _ => M - (intOf c).toNat)
        case atStart => exact ⟨0, rfl, by omega, rfl, Lib.hid hB2⟩
        case round =>
          clear hB2
          obtain ⟨wj, hwj⟩ : ∃ wj, wj = wr := ⟨_, rfl⟩
          subst hwj
          obtain ⟨i, rfl, hiM, rfl, hB⟩ := hrel
          have hsz : n ≤ wj.heap.size := by have := hB.out.size; have := hn.out; omega
          by_cases hlt : i < M
          case neg =>
            obtain rfl : M = i := by omega
            have hf : L.drop M = [] := List.drop_eq_nil_of_le (by rw [hLM.out]; exact Nat.le_refl _)
            rw [hf, show rowF [] = [] from rfl]
            clear hf hlt
            go_wp2
            go_ret
            exact ⟨rfl, hB.out⟩
          exact absurd hlt (by have := hi0.out; omega)
      · have hi1 : (0 : Int) < (M : Int) := by omega
        have hq1 : (1 : Int) ≤ (q : Int) := by have := hq.out (by omega); omega
        have hne : L ≠ [] := fun h => by have := hLM.out; rw [h] at this; simp at this; omega
        have h3 := count_cut hLok.out hne (by omega) w2
        have hl1 : 1 ≤ (rowF L).length := by
          obtain ⟨p, l, hpl⟩ := List.exists_cons_of_ne_nil hne
          rw [hpl, rowF_cons, List.length_append, p.fr_len]
          omega
        obtain ⟨c, hc⟩ : ∃ c, (rowF L).length - 1 = c := ⟨_, rfl⟩
        have hci : ((rowF L).length : Int) - 1 = (c : Int) := by omega
        have hcl : (c : Int) ≤ ((rowF L).length : Int) := by omega
        rw [hc] at h3
        have hSl : ((rowF L).length : Int) ≤ 3045 := by omega
        obtain ⟨S, hS⟩ : ∃ S, rowF L = S := ⟨_, rfl⟩
        rw [hS] at h3 hci hcl hSl ⊢
        replace hS := Lib.hid hS
        clear hc hl1 hlr hne
        go_wp2_with fail
        refine h3.mono ?_
        clear h3
        rintro e w3 ⟨rfl, hb3⟩
        have hB3 := hB2.trans (hb3.mono hz2)
        clear hb3 hB2 hz2 hci hcl
        go_wp2_with fail
        go_loopw [3, 12] (fun v c wr => ∃ (i : Nat), c = .int .i64 (i : Int) ∧ i ≤ M ∧ v = .string (str (rowF (L.drop i))) ∧ Hid (Below n w wr))
          (fun _ c _ => M - (intOf c).toNat)
        case atStart => exact ⟨0, rfl, by omega, by rw [← hS.out]; rfl, Lib.hid hB3⟩
        case round =>
          clear hB3
          obtain ⟨wj, hwj⟩ : ∃ wj, wj = wr := ⟨_, rfl⟩
          subst hwj
          obtain ⟨i, rfl, hiM, rfl, hB⟩ := hrel
          have hsz : n ≤ wj.heap.size := by have := hB.out.size; have := hn.out; omega
          by_cases hlt : i < M
          case neg =>
            obtain rfl : M = i := by omega
            have hf : L.drop M = [] := List.drop_eq_nil_of_le (by rw [hLM.out]; exact Nat.le_refl _)
            rw [hf, show rowF [] = [] from rfl]
            clear hf hlt
            go_wp2
            go_ret
            exact ⟨rfl, hB.out⟩
          have hlt' : (i : Int) < (M : Int) := by omega
          obtain ⟨p, hp⟩ : ∃ p, L[i]? = some p := ⟨_, List.getElem?_eq_getElem (by rw [hLM.out]; exact hlt)⟩
          have hpo := hLok.out p (List.mem_of_getElem? hp)
          obtain ⟨g, o, rfl, hg, c0, c1⟩ := pt_at (hrowL.out.keep hB.out (Nat.le_refl _)) hp
          have hsp := split_pt (l := L.drop (i + 1)) hpo (by rw [← drop_pt hp]; have := hLen.out (L.drop i); rw [List.length_drop, hLM.out] at this; omega) wj
          rw [← drop_pt hp] at hsp
          generalize hR : rowF (L.drop i) = R at *
          generalize hR2 : rowF (L.drop (i + 1)) = R2 at hsp
          obtain ⟨m, hm, hml, hmt⟩ := body_min p.body
          have hpk : (p.k : Int) ≤ 255 := by have : p.k < 256 := hpo; omega
          replace hsp := Lib.hid hsp
          obtain ⟨k, t⟩ := p
          simp only at c0 c1 hm hml hmt hpk hsp
          obtain ⟨T, hT⟩ : ∃ T, t.take 200 = T := ⟨_, rfl⟩
          have hcT : Pt.cut ⟨k, t⟩ = T := hT
          rw [hT] at hmt
          rw [hcT] at hsp
          replace hR2 := Lib.hid hR2
          clear hp hpo hR hT hcT
          go_wp2_with fail
          refine hsp.out.mono ?_
          clear hsp
          rintro e w4 ⟨rfl, hb4⟩
          have d0 := (hb4.cell (p := ⟨g, o + i * 2, none⟩) (Nat.lt_of_lt_of_le hg hsz)).trans c0
          have d1 := (hb4.cell (p := ⟨g, o + i * 2 + 1, none⟩) (Nat.lt_of_lt_of_le hg hsz)).trans c1
          have hz4 : n ≤ w4.heap.size := Nat.le_trans hsz hb4.size
          have k0 := fun d os => ((below_regrown w4 d os).cell (p := ⟨g, o + i * 2, none⟩) (Nat.lt_of_lt_of_le hg hz4)).trans d0
          have k1 := fun d os => ((below_regrown w4 d os).cell (p := ⟨g, o + i * 2 + 1, none⟩) (Nat.lt_of_lt_of_le hg hz4)).trans d1
          have hB4 := Lib.hid (hB.out.trans (hb4.mono hsz))
          clear c0 c1 hb4 hB d0 d1
          go_upto_region 24 with fail
          refine wp_region_quiet_below (by kernel_rfl) (by kernel_rfl) ?_
          repeat (go_big_quiet_step (fail))
          refine wpQuiet_nil ?_
          rintro w5' ⟨⟨d, os⟩, rfl⟩
          have hB5 := Lib.hid (hB4.out.trans ((below_regrown w4 d os).mono hz4))
          dsimp only
          clear hB4 k0 k1
          generalize grow (redrawn w4 d) os = w6 at hB5 ⊢
          go_wp2_with fail
          go_roundw
          case rel => exact ⟨i + 1, by go_num, by omega, by rw [← hR2.out], hB5⟩
          case measure => simp [intOf]; omega
    have hlt' : (i : Int) < (M : Int) := by omega
    obtain ⟨p, hp⟩ : ∃ p, L[i]? = some p := ⟨_, List.getElem?_eq_getElem (by rw [hLM.out]; exact hlt)⟩
    have hpo := hLok.out p (List.mem_of_getElem? hp)
    obtain ⟨g, o, rfl, hg, c0, c1⟩ := pt_at (hrowL.out.keep hB.out (Nat.le_refl _)) hp
    have hsn := Lib.hid (show rowF (L.take (i + 1)) = rowF (L.take i) ++ p.fr by
      rw [List.take_add_one, hp, Option.toList_some]
      exact rowF_snoc _ _)
    have hgi : g < wi.heap.size := Nat.lt_of_lt_of_le hg hsz
    have cL := fun d os => Calls.regrown_of (lay_pt hpo (grow (redrawn wi d) os))
    have hfl : p.fr.length ≤ 203 := by have := p.fr_len; have := p.cut_len; omega
    have hf3 : 1 ≤ p.fr.length := by have := p.fr_len; omega
    have hRl : (rowF (L.take i)).length ≤ 3045 := by have := hLen.out (L.take i); rw [List.length_take] at this; omega
    obtain ⟨m, hm, hml, hmt⟩ := body_min p.body
    have hpk : (p.k : Int) ≤ 255 := by have : p.k < 256 := hpo; omega
    obtain ⟨F, hF⟩ : ∃ F, p.fr = F := ⟨_, rfl⟩
    obtain ⟨R, hR⟩ : ∃ R, rowF (L.take i) = R := ⟨_, rfl⟩
    simp only [hF] at cL
    rw [hF, hR] at hsn
    rw [hF] at hfl hf3
    rw [hR] at hRl ⊢
    obtain ⟨k, t⟩ := p
    simp only at c0 c1 hm hml hmt hpk cL
    obtain ⟨T, hT⟩ : ∃ T, t.take 200 = T := ⟨_, rfl⟩
    have hcT : Pt.cut ⟨k, t⟩ = T := hT
    rw [hT] at hmt
    simp only [hcT] at cL
    have k0 := fun d os => ((below_regrown wi d os).cell (p := ⟨g, o + i * 2, none⟩) hgi).trans c0
    have k1 := fun d os => ((below_regrown wi d os).cell (p := ⟨g, o + i * 2 + 1, none⟩) hgi).trans c1
    have hRi : (R.length : Int) ≤ 3045 := by omega
    have hFi : (F.length : Int) ≤ 203 := by omega
    clear hp hpo hT hcT hF hR hRl hfl
    go_upto_region 8 with fail
    refine wp_region_quiet_below (by kernel_rfl) (by kernel_rfl) ?_
    repeat (go_big_quiet_step (first | with_reducible exact cL _ _))
    refine wpQuiet_nil ?_
    rintro w1' ⟨⟨d, os⟩, rfl⟩
    have hB1 := Lib.hid (hB.out.trans ((below_regrown wi d os).mono hsz))
    dsimp only
    clear hB k0 k1 cL c0 c1
    generalize grow (redrawn wi d) os = w5 at hB1 ⊢
    go_wp2_with fail
    go_roundw
    case rel => exact ⟨i + 1, F.length, by go_num, by omega, by rw [hsn.out], by first | rfl | go_num, Lib.hid (fun _ => hf3), hB1⟩
    case measure => simp [intOf]; omega

end Go.Proofs.Ytkfienjlmnbonaa.Fr

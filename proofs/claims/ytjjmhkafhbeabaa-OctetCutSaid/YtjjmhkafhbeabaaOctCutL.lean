/-
  OctetCut: a row that is cut somewhere breaks its reader, and that stays so.
-/
import Derived.Test.YtjjmhkafhbeabaaOctBackL
import Derived.Test.YtjjmhkafhbeabaaOctReadsL
namespace Go.Proofs.Ytjjmhkafhbeabaa.Oct
open Go.RowKit Go.Sort Go.Proofs.Ytjjmhkafhbeabaa.Mem Go.Proofs.Ytjjmhkafhbeabaa.Route
set_option linter.unusedVariables false
attribute [local go_sem] str_append str_from str_to

theorem numS_none (k : Int) : numS none k = (0, none) := rfl
theorem textS_none : textS none = ([], none) := rfl
theorem StLe.step {st : St} (h : StLe st) (p : Part) : StLe (stepS st p) := by
  unfold stepS
  split
  · exact h.text
  · exact h.num _
theorem fold_snoc (l : List Part) (p : Part) (st : St) : (l ++ [p]).foldl stepS st = stepS (l.foldl stepS st) p := by rw [List.foldl_append]; rfl
set_option maxRecDepth 100000 in
set_option maxHeartbeats 8000000 in
theorem cut_walk (x : Option Addr) (N cap : Nat) (ps : List Part) (a : Nat) (ha : a < 65536) (again : Nat) (hag : again < 256) (w : World) (hrow : RowB w.heap.size w (.slice x N cap) 4 (ps.map partV)) (hps : ∀ p ∈ ps, p.ok) :
    Calls Try.prog 6 #[.slice x N cap, .int .u16 (a : Int), .int .u8 (again : Int)] w fun e w' => e = .returned (.bool true) ∧ Below w.heap.size w w' := by
  obtain ⟨n, hn⟩ : ∃ n, w.heap.size = n := ⟨_, rfl⟩
  have hwk := works_any w
  have hok := cutL_ok hps
  have h16 := cutL_16 ps
  have hlen := cutL_len hps
  rw [hn] at hwk hrow ⊢
  go_enter Try.func6, Try.ntmps6
  go_wp2_with fail
  refine hwk.mono ?_
  clear hwk
  rintro e w1 ⟨rfl, hB1⟩
  have hz1 := hB1.size
  rw [hn] at hz1
  have hcut := cut_any x N cap ps w1 ((hrow.keep hB1 (Nat.le_refl _)).more hz1)
  replace hn := Lib.hid hn
  clear hrow
  go_wp2_with fail
  refine hcut.mono ?_
  clear hcut
  rintro e w2 ⟨⟨v, rfl, hown⟩, hb2⟩
  have hB2 := hB1.trans (hb2.mono hz1)
  have hz2 := Nat.le_trans hz1 hb2.size
  have hrow2 := own_parts hown rfl
  obtain ⟨L, hL⟩ : ∃ L, cutL ps = L := ⟨_, rfl⟩
  rw [hL] at hown hrow2 hok h16 hlen
  obtain ⟨xo, co, rfl, hco1, hco2⟩ := owns_slice hown
  obtain ⟨M, hM⟩ : ∃ M, L.length = M := ⟨_, rfl⟩
  rw [hM] at hrow2 h16 ⊢
  have hrw := row_any xo M co L w2 hrow2 hok (by omega)
  clear hown hb2 hB1 hz1 hL hco1 hco2
  have hfold := fold_cut L (fun p hp => ⟨(hok p hp).1, by have := (hok p hp).2; omega⟩)
  obtain ⟨S, hS⟩ : ∃ S, rowL L = S := ⟨_, rfl⟩
  rw [hS] at hrw hlen hfold
  go_wp2_with fail
  refine hrw.mono ?_
  clear hrw
  rintro e w3 ⟨rfl, hb3⟩
  have hB3 := hB2.trans (hb3.mono hz2)
  have hz3 := Nat.le_trans hz2 hb3.size
  have hrow3 := (hrow2.keep hb3 (Nat.le_refl _)).more hb3.size
  clear hb3 hB2 hrow2 hz2 hS
  by_cases hS0 : S.length = 0
  · obtain rfl : S = [] := List.eq_nil_of_length_eq_zero hS0
    clear hS0 hfold
    go_wp2
    go_ret
    exact ⟨rfl, hB3⟩
  have hSne : ¬ (S.length : Int) = 0 := by omega
  obtain ⟨c, hc⟩ : ∃ c, a % S.length = c := ⟨_, rfl⟩
  have hcl : c < S.length := by rw [← hc]; exact Nat.mod_lt _ (by omega)
  have q1 : (a : Int) % (S.length : Int) = (c : Int) := by rw [← hc]; simp
  have q2 : (a : Int).tmod (S.length : Int) = (c : Int) := by rw [Int.tmod_eq_emod_of_nonneg (by omega), q1]
  have q3 : (c : Int) ≤ (S.length : Int) := by omega
  have hnone := Lib.hid (hfold c hcl)
  have hSl : (S.length : Int) ≤ 4832 := by omega
  clear hfold hc hS0
  have hT : ((S.take c).length) ≤ 4832 := by rw [List.length_take]; omega
  obtain ⟨T, hTT⟩ : ∃ T, S.take c = T := ⟨_, rfl⟩
  rw [hTT] at hnone hT
  have hrdT := fun W => Read_any T W
  clear hcl
  go_wp2_with fail
  refine (hrdT _).mono ?_
  clear hrdT hTT
  rintro e w4 ⟨rfl, hR4, hb4⟩
  have hB4 := hB3.trans (hb4.mono hz3)
  have hz4 := Nat.le_trans hz3 hb4.size
  have hrow4 := hrow3.keep hb4 (Nat.le_refl _)
  have hr4 := hR4.inside
  obtain ⟨r, hr⟩ : ∃ r, w3.heap.size = r := ⟨_, rfl⟩
  rw [hr] at hR4 hrow4 hz3 hr4 ⊢
  have hst0 : StLe (some T) := fun l hl => by cases hl; omega
  replace hR4 := Lib.hid hR4
  replace hst0 := Lib.hid hst0
  replace hB4 := Lib.hid hB4
  replace hrow4 := Lib.hid hrow4
  replace hok := Lib.hid hok
  replace hM := Lib.hid hM
  clear hb4 hB3 hrow3 hr q1 q2 q3 hSl hSne hlen
  have hM16 : (M : Int) ≤ 16 := by omega
  go_wp2_with fail
  go_loopw [11] (fun c wr => ∃ (i : Nat), c = .int .i64 (i : Int) ∧ i ≤ M ∧ Hid (RdAt wr r ((L.take i).foldl stepS (some T))) ∧ Hid (StLe ((L.take i).foldl stepS (some T))) ∧ Hid (Below n w wr) ∧ Hid (w4.grownBy wr (some r)))
    (fun c _ => M - (intOf c).toNat)
  case atStart => exact ⟨0, rfl, by omega, hR4, hst0, hB4, Lib.hid (grown_refl _ _)⟩
  case round =>
    clear hR4 hst0 hB4
    obtain ⟨wi, hwi⟩ : ∃ wi, wi = wr := ⟨_, rfl⟩
    subst hwi
    obtain ⟨i, rfl, hiM, hR, hst, hB, hG⟩ := hrel
    have hzi : n ≤ wi.heap.size := Nat.le_trans hz4 hG.out.size
    by_cases hlt : i < M
    case neg =>
      obtain rfl : i = M := by omega
      have hd : L.take i = L := List.take_of_length_le (by rw [hM.out]; exact Nat.le_refl _)
      rw [hd, hnone.out] at hR
      have hR5 := hR.out
      have hB5 := hB.out
      clear hd hlt hR hst hB hG hnone
      go_wp2_with fail
      refine (End_any _ _ _ hR5).mono ?_
      rintro e w5 ⟨rfl, rfl⟩
      go_wp2_with fail
      refine (Left_any _ _ _ hR5).mono ?_
      rintro e w6 ⟨rfl, rfl⟩
      have hnum := fun k => Num_any k r none w6 (fun l hl => by cases hl) hR5
      simp only [numS_none] at hnum
      go_wp2_with fail
      refine (hnum _).mono ?_
      rintro e w7 ⟨rfl, hR7, hg7⟩
      have hB7 := below_rd hB5 hg7 hzi hz3
      have hz7 := Nat.le_trans hzi hg7.size
      have htx := Text_any r none w7 (fun l hl => by cases hl) hR7
      simp only [textS_none] at htx
      clear hg7 hB5 hnum hR5
      go_wp2_with fail
      refine htx.mono ?_
      clear htx
      rintro e w8 ⟨rfl, hR8, hg8⟩
      have hB8 := below_rd hB7 hg8 hz7 hz3
      clear hg8 hB7 hR7
      go_wp2_with fail
      refine (End_any _ _ _ hR8).mono ?_
      rintro e w9 ⟨rfl, rfl⟩
      go_wp2
      go_ret
      exact ⟨rfl, hB8⟩
    have hlt' : (i : Int) < (M : Int) := by omega
    obtain ⟨p, hp⟩ : ∃ p, L[i]? = some p := ⟨_, List.getElem?_eq_getElem (by rw [hM.out]; exact hlt)⟩
    have hpo := hok.out p (List.mem_of_getElem? hp)
    obtain ⟨g, o, rfl, hg, e0, e1, e2, e3⟩ := part_at hrow4.out hp
    have hgr : g ≠ r := by omega
    have hgw : g < w4.heap.size := by omega
    have c0 := (gcell hG.out hgw hgr).trans e0
    have c1 := (gcell hG.out hgw hgr).trans e1
    have c2 := (gcell hG.out hgw hgr).trans e2
    have c3 := (gcell hG.out hgw hgr).trans e3
    have hsn := Lib.hid (show (L.take (i + 1)).foldl stepS (some T) = stepS ((L.take i).foldl stepS (some T)) p by
      rw [List.take_add_one, hp, Option.toList_some]
      exact fold_snoc _ _ _)
    obtain ⟨st, hstt⟩ : ∃ st, (L.take i).foldl stepS (some T) = st := ⟨_, rfl⟩
    rw [hstt] at hR hst hsn
    have hst2 := Lib.hid (hst.out.step p)
    clear hp e0 e1 e2 e3 hstt
    cases his : p.is
    case true =>
      have hs2 : stepS st p = (textS st).2 := by simp [stepS, his]
      rw [his] at c3
      have htx := Text_any r st wi hst.out hR.out
      rw [← hs2] at htx
      clear hs2 his
      go_wp2_with fail
      refine htx.mono ?_
      clear htx
      rintro e w5 ⟨rfl, hR5, hg5⟩
      have hB5 := Lib.hid (below_rd hB.out hg5 hzi hz3)
      have hG5 := Lib.hid (grown_trans hG.out hg5)
      replace hR5 := Lib.hid hR5
      clear hg5 hB hG hR hst c0 c1 c2 c3
      go_wp2_with fail
      go_roundw
      case rel => exact ⟨i + 1, by go_num, by omega, by rw [hsn.out]; exact hR5, by rw [hsn.out]; exact hst2, hB5, hG5⟩
      case measure => simp [intOf]; omega
    case false =>
      have hs2 : stepS st p = (numS st p.width).2 := by simp [stepS, his]
      rw [his] at c3
      have hwd := width_any p hpo.1 wi
      rw [his] at hwd
      have hnm := fun W h => Num_any p.width r st W hst.out h
      rw [← hs2] at hnm
      obtain ⟨D, hD⟩ : ∃ D, p.width = D := ⟨_, rfl⟩
      obtain ⟨S2, hS2⟩ : ∃ S2, stepS st p = S2 := ⟨_, rfl⟩
      rw [hD] at hwd hnm
      rw [hS2] at hnm hsn hst2
      replace hnm := Lib.hid hnm
      obtain ⟨pn, pk, pt, pb⟩ := p
      simp only at c0 c1 c2 hwd
      clear hs2 his hD hS2
      go_wp2_with fail
      refine hwd.mono ?_
      clear hwd
      rintro e w5 ⟨rfl, hb5⟩
      have hB5 := hB.out.trans (hb5.mono hzi)
      have hz5 := Nat.le_trans hzi hb5.size
      have hR5 := hR.out.on hb5
      have hG5 := grown_trans hG.out (grown_of hb5 r)
      clear hb5 hB hG hR hst c0 c1 c2 c3
      go_wp2_with fail
      refine (hnm.out _ hR5).mono ?_
      clear hnm
      rintro e w6 ⟨rfl, hR6, hg6⟩
      have hB6 := Lib.hid (below_rd hB5 hg6 hz5 hz3)
      have hG6 := Lib.hid (grown_trans hG5 hg6)
      replace hR6 := Lib.hid hR6
      clear hg6 hB5 hG5 hR5
      go_wp2_with fail
      go_roundw
      case rel => exact ⟨i + 1, by go_num, by omega, by rw [hsn.out]; exact hR6, by rw [hsn.out]; exact hst2, hB6, hG6⟩
      case measure => simp [intOf]; omega

end Go.Proofs.Ytjjmhkafhbeabaa.Oct

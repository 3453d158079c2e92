/-
  The contract of the document's Open.
-/
import Derived.Test.YtphfjaelglafnaaDoorLoadRef
namespace Go.Proofs.YtphfjaelglafnaaDoor.Load
open Go.RowKit Go.Sort Go.Proofs.YtphfjaelglafnaaDoor.Mem Go.Proofs.YtphfjaelglafnaaDoor.Route Go.Proofs.YtphfjaelglafnaaDoor.When
set_option linter.unusedVariables false

def bi (b : Bool) : Int := if b then 1 else 0
theorem bi_t : bi true = 1 := rfl
theorem bi_f : bi false = 0 := rfl
/-- The first of the first j stops that is request r's is no earlier than the k-th. -/
def fsB (l : List (Int × Int)) (r : Int) (k j : Nat) : Bool := noR r (l.take (min k j))
theorem fs_other {l : List (Int × Int)} {r : Int} {k j : Nat} {s : Int × Int} (h : l[j]? = some s) (e : (s.1 == r) = false) : fsB l r k (j + 1) = fsB l r k j := by
  unfold fsB
  rcases Nat.lt_or_ge j k with hlt | hge
  · rw [Nat.min_eq_right (by omega), Nat.min_eq_right (by omega), Load.take_get h, noR_snoc]
    have : s.1 ≠ r := by simpa using e
    simp [this]
  · rw [Nat.min_eq_left (by omega), Nat.min_eq_left (by omega)]
theorem fs_same {l : List (Int × Int)} {r : Int} {k j : Nat} {s : Int × Int} (h : l[j]? = some s) (e : (s.1 == r) = true) : fsB l r k (j + 1) = (fsB l r k j && decide ((k : Int) ≤ (j : Int))) := by
  unfold fsB
  rcases Nat.lt_or_ge j k with hlt | hge
  · rw [Nat.min_eq_right (by omega), Nat.min_eq_right (by omega), Load.take_get h, noR_snoc]
    have h1 : s.1 = r := by simpa using e
    rw [decide_eq_false (show ¬ ((k : Int) ≤ (j : Int)) by omega)]
    simp [h1]
  · rw [Nat.min_eq_left (by omega), Nat.min_eq_left (by omega), decide_eq_true (show (k : Int) ≤ (j : Int) by omega), Bool.and_true]
theorem pk_other {l : List (Int × Int)} {r : Int} {j : Nat} {s : Int × Int} (h : l[j]? = some s) (e : (s.1 == r) = false) : pkB (l.take (j + 1)) r = pkB (l.take j) r ∧ dpB (l.take (j + 1)) r = dpB (l.take j) r := by
  have : s.1 ≠ r := by simpa using e
  rw [Load.take_get h, pkB_snoc, dpB_snoc]
  simp [this]
theorem pk_pick {l : List (Int × Int)} {r : Int} {j : Nat} {s : Int × Int} (h : l[j]? = some s) (e : (s.1 == r) = true) (e2 : (s.2 == 0) = true) : pkB (l.take (j + 1)) r = true ∧ dpB (l.take (j + 1)) r = false := by
  have h1 : s.1 = r := by simpa using e
  have h2 : s.2 = 0 := by simpa using e2
  rw [Load.take_get h, pkB_snoc, dpB_snoc]
  simp [h1, h2]
theorem pk_drop {l : List (Int × Int)} {r : Int} {j : Nat} {s : Int × Int} (h : l[j]? = some s) (e : (s.1 == r) = true) (e2 : (s.2 == 1) = true) : pkB (l.take (j + 1)) r = pkB (l.take j) r ∧ dpB (l.take (j + 1)) r = true := by
  have h1 : s.1 = r := by simpa using e
  have h2 : s.2 = 1 := by simpa using e2
  rw [Load.take_get h, pkB_snoc, dpB_snoc]
  simp [h1, h2]
theorem pk_odd {l : List (Int × Int)} {r : Int} {j : Nat} {s : Int × Int} (h : l[j]? = some s) (e2 : (s.2 == 0) = false) (e3 : (s.2 == 1) = false) : pkB (l.take (j + 1)) r = pkB (l.take j) r ∧ dpB (l.take (j + 1)) r = dpB (l.take j) r := by
  have h1 : s.2 ≠ 0 := by simpa using e2
  have h2 : s.2 ≠ 1 := by simpa using e3
  rw [Load.take_get h, pkB_snoc, dpB_snoc]
  simp [h1, h2]
theorem fs_end {l : List (Int × Int)} {r : Int} {k : Nat} {K : Nat} (hk : k ≤ K) : fsB l r k K = noR r (l.take k) := by unfold fsB; rw [Nat.min_eq_left hk]
theorem take_at {α : Type} {l : List α} {K j : Nat} (h : j < K) : (l.take K)[j]? = l[j]? := List.getElem?_take_of_lt h

set_option maxRecDepth 100000 in
set_option maxHeartbeats 4000000 in
theorem refOpen_any (v : Value) (l : List (Int × Int)) (hl : l.length ≤ 1000000) (k0 : Int) (w : World) (h : Row w.heap.size w v l) :
    Calls Tryd.prog 16 #[v, .int .i64 k0] w fun e w' => (∃ v', e = .returned v' ∧ Ints w'.heap.size w' v' (opAt l k0)) ∧ Below w.heap.size w w' := by
  obtain ⟨x, N, cap, rfl, hN', h0', hc1, hc2⟩ := h.opened
  unfold maxLen at hc2
  obtain ⟨K, hK⟩ : ∃ K, kN l k0 = K := ⟨_, rfl⟩
  have hK1 : max 0 (min k0 (N : Int)) = (K : Int) := by rw [← hK]; unfold kN; rw [hN'.out]; omega
  have hKN : K ≤ N := by omega
  obtain ⟨L, hL⟩ : ∃ L, l.take K = L := ⟨_, rfl⟩
  have hLK : Hid (L.length = K) := Lib.hid (by rw [← hL, List.length_take, hN'.out]; omega)
  have hLl : Hid (∀ j, j < K → L[j]? = l[j]?) := Lib.hid (fun j hj => by rw [← hL]; exact take_at hj)
  have hfin : Hid (opT L K = opAt l k0) := Lib.hid (by unfold opAt opL; rw [hK, hL, hLK.out])
  have hlen := Lib.hid (fun k (hk : k ≤ K) => (opT_tells L k (by rw [hLK.out]; exact hk)).2.2)
  have h' := Lib.hid h
  rw [hN'.out] at hl
  clear h hK hL
  go_enter Tryd.func16, Tryd.ntmps16
  go_wp2
  go_loopw [5, 6] (fun u i wr => ∃ k : Nat, k ≤ K ∧ i = .int .i64 k ∧ Hid (Ints wr.heap.size wr u (opT L k)) ∧ Below w.heap.size w wr)
    (fun _ i _ => K - (intOf i).toNat)
  case atStart => exact ⟨0, by omega, rfl, Lib.hid (RowB.nil _ _ _), Below.refl _ _⟩
  case round =>
    obtain ⟨k, hk, rfl, hout, hbw⟩ := hrel
    by_cases hlt : k < K
    · obtain ⟨s, hs⟩ : ∃ s, l[k]? = some s := ⟨l[k]'(by rw [hN'.out]; omega), List.getElem?_eq_getElem _⟩
      obtain ⟨g, o, rfl, hg, c0, c1⟩ := Row.stop (h'.out.keep hbw (Nat.le_refl _)) hs
      have hsL : Hid (L[k]? = some s) := Lib.hid ((hLl.out k hlt).trans hs)
      obtain ⟨r, hr⟩ : ∃ r, s.1 = r := ⟨_, rfl⟩
      rw [hr] at c0
      have hr' := Lib.hid hr
      obtain ⟨xu, n, cu, rfl, hn1, _, _⟩ := hout.out.opened
      have hno : Hid (n ≤ K) := Lib.hid (by rw [← hn1.out]; have := hlen.out k hk; omega)
      clear hs hr hn1
      go_wp2
      go_loopw [8, 9, 10, 11] (fun a b c i wq => ∃ j : Nat, j ≤ K ∧ i = .int .i64 j ∧ a = .int .i64 (bi (pkB (L.take j) r)) ∧ b = .int .i64 (bi (dpB (L.take j) r)) ∧ c = .bool (fsB L r k j) ∧ wq = wr)
        (fun _ _ _ i _ => K - (intOf i).toNat)
      case atStart => exact ⟨0, by omega, rfl, rfl, rfl, by simp [fsB, noR], rfl⟩
      case round =>
        obtain ⟨j, hj, rfl, rfl, rfl, rfl, rfl⟩ := hrel
        by_cases hlt2 : j < K
        · obtain ⟨z, hz⟩ : ∃ z, l[j]? = some z := ⟨l[j]'(by rw [hN'.out]; omega), List.getElem?_eq_getElem _⟩
          obtain ⟨g2, o2, eg, _, d0, d1⟩ := Row.stop (h'.out.keep hbw (Nat.le_refl _)) hz
          simp only [Option.some.injEq, Addr.mk.injEq] at eg
          obtain ⟨rfl, rfl, _⟩ := eg
          have hzL : Hid (L[j]? = some z) := Lib.hid ((hLl.out j hlt2).trans hz)
          obtain ⟨z1, z2⟩ := z
          simp only at d0 d1
          clear hz
          cases e1 : (z1 == r)
          · have e2 : (z1 != r) = true := by rw [bne, e1]; rfl
            have hn := Lib.hid (pk_other hzL.out e1)
            have hf := Lib.hid (fs_other (k := k) hzL.out e1)
            go_wp2
            go_roundw
            case rel => exact ⟨j + 1, by omega, by go_num, by rw [hn.out.1], by rw [hn.out.2], by rw [hf.out], trivial⟩
            case measure => simp [intOf]; omega
          · have e2 : (z1 != r) = false := by rw [bne, e1]; rfl
            have hf := Lib.hid (fs_same (k := k) hzL.out e1)
            obtain ⟨P, hP⟩ : ∃ P, pkB (L.take j) r = P := ⟨_, rfl⟩
            obtain ⟨D, hD⟩ : ∃ D, dpB (L.take j) r = D := ⟨_, rfl⟩
            obtain ⟨F, hF⟩ : ∃ F, fsB L r k j = F := ⟨_, rfl⟩
            rw [hF] at hf
            rw [hP, hD, hF]
            have hP' := Lib.hid hP
            have hD' := Lib.hid hD
            clear hP hD hF
            cases e3 : (z2 == 0)
            · cases e4 : (z2 == 1)
              · have hn := Lib.hid (pk_odd (r := r) hzL.out e3 e4)
                cases F
                · go_wp2
                  go_roundw
                  case rel => exact ⟨j + 1, by omega, by go_num, by rw [hn.out.1, hP'.out], by rw [hn.out.2, hD'.out], by rw [hf.out]; rfl, trivial⟩
                  case measure => simp [intOf]; omega
                · go_wp2
                  go_roundw
                  case rel => exact ⟨j + 1, by omega, by go_num, by rw [hn.out.1, hP'.out], by rw [hn.out.2, hD'.out], by rw [hf.out, Bool.true_and]; simp, trivial⟩
                  case measure => simp [intOf]; omega
              · have hn := Lib.hid (pk_drop hzL.out e1 e4)
                cases F
                · go_wp2
                  go_roundw
                  case rel => exact ⟨j + 1, by omega, by go_num, by rw [hn.out.1, hP'.out], by rw [hn.out.2]; rfl, by rw [hf.out]; rfl, trivial⟩
                  case measure => simp [intOf]; omega
                · go_wp2
                  go_roundw
                  case rel => exact ⟨j + 1, by omega, by go_num, by rw [hn.out.1, hP'.out], by rw [hn.out.2]; rfl, by rw [hf.out, Bool.true_and]; simp, trivial⟩
                  case measure => simp [intOf]; omega
            · have hn := Lib.hid (pk_pick hzL.out e1 e3)
              have e4 : (z2 == 1) = false := by have : z2 = 0 := by simpa using e3
                                                simp [this]
              cases F
              · go_wp2
                go_roundw
                case rel => exact ⟨j + 1, by omega, by go_num, by rw [hn.out.1]; rfl, by rw [hn.out.2]; rfl, by rw [hf.out]; rfl, trivial⟩
                case measure => simp [intOf]; omega
              · go_wp2
                go_roundw
                case rel => exact ⟨j + 1, by omega, by go_num, by rw [hn.out.1]; rfl, by rw [hn.out.2]; rfl, by rw [hf.out, Bool.true_and]; simp, trivial⟩
                case measure => simp [intOf]; omega
        · obtain rfl : j = K := by omega
          have hcond : Hid ((noR s.1 (L.take k) && opB L s.1) = (fsB L r k j && (pkB (L.take j) r && !dpB (L.take j) r))) := Lib.hid (by
            rw [fs_end hk, opB_pd, hr'.out, show L.take j = L by rw [← hLK.out, List.take_length]])
          obtain ⟨P, hP⟩ : ∃ P, pkB (L.take j) r = P := ⟨_, rfl⟩
          obtain ⟨D, hD⟩ : ∃ D, dpB (L.take j) r = D := ⟨_, rfl⟩
          obtain ⟨F, hF⟩ : ∃ F, fsB L r k j = F := ⟨_, rfl⟩
          rw [hP, hD, hF] at hcond
          rw [hP, hD, hF]
          clear hP hD hF
          have skip : Hid ((F && (P && !D)) = false → opT L (k + 1) = opT L k) := Lib.hid (fun e => opT_no hsL.out (hcond.out.trans e))
          have take : Hid ((F && (P && !D)) = true → opT L (k + 1) = ins r (opT L k)) := Lib.hid (fun e => by rw [opT_yes hsL.out (hcond.out.trans e), hr'.out])
          clear hcond
          cases F
          · have hn := Lib.hid (skip.out rfl)
            go_wp2
            go_roundw
            case rel => exact ⟨k + 1, by omega, by go_num, by rw [hn.out]; exact hout, hbw⟩
            case measure => simp [intOf]; omega
          · cases P
            · have hn := Lib.hid (skip.out rfl)
              simp only [bi_f]
              go_wp2
              go_roundw
              case rel => exact ⟨k + 1, by omega, by go_num, by rw [hn.out]; exact hout, hbw⟩
              case measure => simp [intOf]; omega
            · cases D
              · have hn := Lib.hid (take.out rfl)
                have hins := insert_any r _ (opT L k) (by have := hlen.out k hk; omega) wr hout.out
                simp only [bi_f, bi_t]
                go_wp2_with fail
                refine hins.mono ?_
                clear hins
                rintro e w3 ⟨⟨v3, rfl, hv3, _⟩, hb3⟩
                have hv3' := Lib.hid hv3
                have hB3 := hbw.trans (hb3.mono hbw.size)
                obtain ⟨y3, n3, c3, rfl, _, _, _⟩ := hv3.opened
                clear hv3 hb3
                go_wp2
                go_roundw
                case rel => exact ⟨k + 1, by omega, by go_num, by rw [hn.out]; exact hv3', hB3⟩
                case measure => simp [intOf]; omega
              · have hn := Lib.hid (skip.out rfl)
                simp only [bi_t]
                go_wp2
                go_roundw
                case rel => exact ⟨k + 1, by omega, by go_num, by rw [hn.out]; exact hout, hbw⟩
                case measure => simp [intOf]; omega
    · obtain rfl : k = K := by omega
      obtain ⟨xu, n, cu, rfl, _, _, _⟩ := hout.out.opened
      go_wp2
      go_ret
      exact ⟨⟨_, rfl, by rw [← hfin.out]; exact hout.out⟩, hbw⟩

end Go.Proofs.YtphfjaelglafnaaDoor.Load

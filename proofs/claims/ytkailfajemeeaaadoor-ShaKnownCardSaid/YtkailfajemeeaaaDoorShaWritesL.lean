/-
  ShaWrites: what was written, piece by piece, with copies and sums in between.
-/
import Derived.Test.YtkailfajemeeaaaDoorShaEq
import Derived.Test.YtkailfajemeeaaaDoorShaRefSum
import Derived.Test.YtkailfajemeeaaaDoorShaWorks
namespace Go.Proofs.YtkailfajemeeaaaDoor.Sha
open Go.RowKit Go.Sort Go.Shelf Go.Proofs.YtkailfajemeeaaaDoor.Mem Go.Proofs.YtkailfajemeeaaaDoor.Route
set_option linter.unusedVariables false

attribute [local go_sem] eq_sum
/-- An act: what, and a text. -/
def actV (a : Int × ByteArray) : List Value := [.int .u8 a.1, .string a.2]

set_option maxRecDepth 100000 in
set_option maxHeartbeats 4000000 in
theorem writes_walk (xb : Option Addr) (Nb cb : Nat) (acts : List (Int × ByteArray)) (w : World) (hsg : Sg w) (hrow : RowB w.heap.size w (.slice xb Nb cb) 2 (acts.map actV)) (hby : ∀ y ∈ acts, 0 ≤ y.1 ∧ y.1 < 256) :
    Calls Tryd.prog 4 #[.slice xb Nb cb] w fun e w' => e = .returned (.bool true) ∧ Below w.heap.size w w' := by
  obtain ⟨n, hn⟩ : ∃ n, w.heap.size = n := ⟨_, rfl⟩
  have hp1 := hsg.posh
  have hp2 := hsg.posk
  rw [hn] at hp1 hp2
  have hnew := new_any w hsg
  rw [hn] at hnew
  have hNb : Nb = acts.length := by obtain ⟨x, c, e, _⟩ := hrow; cases e; simp
  subst hNb
  go_enter Tryd.func4, Tryd.ntmps4
  go_wp2_with fail
  refine hnew.mono ?_
  clear hnew
  rintro e w1 ⟨rfl, hh1, hb1⟩
  have hsg1 : Sg w1 := hsg.keep hb1 hp1 hp2
  replace hn := Lib.hid hn
  go_wp2_with fail
  refine (works_any w1 hsg1).mono ?_
  rintro e w2 ⟨rfl, hb2⟩
  have hsg2 := Lib.hid (hsg1.on hb2)
  have hh2 := Lib.hid (show HashAt w2 n (bytesOf ⟨#[]⟩) from hh1.on hb2)
  have hB2 := Lib.hid (hb1.trans (hb2.mono (Nat.le_of_lt hh1.inside)))
  clear hb1 hb2 hh1 hsg1 hsg
  go_upto_region 5 with fail
  go_loopw [3, 4, 5] (fun hv sv iv wr => ∃ (g k : Nat) (s : ByteArray), hv = .pointer (some ⟨g, 0, none⟩) ∧ sv = .string s ∧ iv = .int .i64 (k : Int) ∧ k ≤ acts.length ∧ k ≤ 20 ∧ s.size ≤ 150 * k ∧ n ≤ g ∧ Hid (HashAt wr g (bytesOf s)) ∧ Hid (Below n w wr) ∧ Hid (Sg wr)) (fun _ _ i _ => acts.length - (intOf i).toNat)
  case atStart => exact ⟨n, 0, ⟨#[]⟩, rfl, rfl, rfl, Nat.zero_le _, Nat.zero_le _, Nat.le_refl _, Nat.le_refl _, hh2, hB2, hsg2⟩
  case round =>
    clear hh2 hB2 hsg2
    obtain ⟨g, k, s, rfl, rfl, rfl, hk, hk2, hs, hg, hhr, hBr, hsr⟩ := hrel
    have hls := bytesOf_length s
    by_cases h1 : k < acts.length
    · have c0 : ((k : Int) < (acts.length : Int)) := by omega
      by_cases h2 : k < 20
      · have c2 : ((k : Int) < 20) := by omega
        obtain ⟨⟨y, c⟩, hy⟩ : ∃ y, acts[k]? = some y := ⟨_, List.getElem?_eq_getElem h1⟩
        obtain ⟨gx, ox, rfl, hgx, hcx⟩ := RowB.row (RowB.keep hrow (by rw [hn.out]; exact hBr.out) (Nat.le_refl _)) (j := k) (r := actV (y, c)) (by rw [List.getElem?_map, hy]; rfl)
        have e0 := hcx 0 _ rfl
        have e1 := hcx 1 _ rfl
        have hyb := hby (y, c) (List.mem_of_getElem? hy)
        simp only [Nat.add_zero] at e0 hyb
        have hBz := Lib.hid (hBr.out.alloc (show n ≤ wr.heap.size by have := hhr.out.inside; omega) (.cells #[.int .u8 y, .string c] 31))
        obtain ⟨d, hd⟩ : ∃ d, wr.heap.size = d := ⟨_, rfl⟩
        have hgd : g < d := by have := hhr.out.inside; omega
        have hhz := Lib.hid (hhr.out.same (v := wr.alloc (.cells #[.int .u8 y, .string c] 31)) (Below.heap_alloc wr _ _ (by omega)))
        have hsz := Lib.hid (hsr.out.same (v := wr.alloc (.cells #[.int .u8 y, .string c] 31)) (Below.heap_alloc wr _ _ hsr.out.posh) (Below.heap_alloc wr _ _ hsr.out.posk))
        have hAz := Lib.hid (show At (wr.alloc (.cells #[.int .u8 y, .string c] 31)) d 31 #[.int .u8 y, .string c] by rw [← hd]; exact At.new _ _ _)
        replace hd := Lib.hid hd
        clear hcx hhr hBr hsr
        go_upto_region 8 with fail
        have hdo := hd.out
        rw [hdo]
        generalize hz : World.alloc wr _ = wq
        replace hBz : Hid (Below n w wq) := Lib.hid (by rw [← hz]; exact hBz.out)
        replace hhz : Hid (HashAt wq g (bytesOf s)) := Lib.hid (by rw [← hz]; exact hhz.out)
        replace hsz : Hid (Sg wq) := Lib.hid (by rw [← hz]; exact hsz.out)
        replace hAz : At wq d 31 #[.int .u8 y, .string c] := by rw [← hz]; exact hAz.out
        clear hz hdo
        have hAi := hAz.inside
        have p0 : wq.cell? ⟨d, 0, none⟩ = some (.int .u8 y) := by simpa using hAz.cell 0
        have p1 : wq.cell? ⟨d, 1, none⟩ = some (.string c) := by simpa using hAz.cell 1
        clear e0 e1 hrow hAz
        obtain ⟨R, hR⟩ : ∃ R : Int, y.tmod 3 = R := ⟨_, rfl⟩
        have hR' : y % 3 = R := by rw [← hR, Int.tmod_eq_emod_of_nonneg hyb.1]
        have hR3 : R = 0 ∨ R = 1 ∨ R = 2 := by omega
        replace hR' := Lib.hid hR'
        rcases hR3 with rfl | rfl | rfl
        · obtain ⟨m, hm⟩ : ∃ m : Nat, min (c.size : Int) 150 = m := ⟨min c.size 150, by omega⟩
          have hm1 : m ≤ c.size := by omega
          have hm2 : m ≤ 150 := by omega
          go_upto_region 14 with fail
          have hs2 : (c.extract 0 m).size ≤ 150 := by rw [size_cut c 0 m hm1]; omega
          generalize c.extract 0 m = x at hs2 ⊢
          have hw4 := write_any g (bytesOf s) x wq hhz.out (by omega) hsz.out (by omega) (by omega)
          rw [← bytesOf_append] at hw4
          go_wp2_with fail
          refine hw4.mono ?_
          clear hw4
          rintro z w4 ⟨⟨v4, rfl⟩, hh4, hg4⟩
          have hsx : (s ++ x).size ≤ 150 * (k + 1) := by rw [← bytesOf_length, bytesOf_append, List.length_append, hls, bytesOf_length]; omega
          have hB4 := Lib.hid (hBz.out.grown hg4 (by have := hBz.out.size; have := hn.out; omega) (fun r e => by cases e; omega))
          have hsg4 : Hid (Sg w4) := Lib.hid (hsz.out.same (hg4.block _ hsz.out.posh (by simp; omega)) (hg4.block _ hsz.out.posk (by simp; omega)))
          replace hh4 := Lib.hid hh4
          clear hhz hBz hsz hg4 p0 p1 hm
          go_wp2_with fail
          go_roundw
          case rel => exact ⟨g, k + 1, s ++ x, rfl, rfl, by simp, by omega, by omega, hsx, hg, hh4, hB4, hsg4⟩
          case measure => simp [intOf]; omega
        · go_wp2_with fail
          refine (sumOf_any g (bytesOf s) wq hhz.out (by omega) hsz.out).mono ?_
          rintro z w4 ⟨rfl, hb4⟩
          go_wp2_with fail
          refine (refSum_any s (by omega) w4).mono ?_
          rintro z w5 ⟨rfl, hb5⟩
          have hb6 := hb4.trans (hb5.mono hb4.size)
          have hh5 := Lib.hid (hhz.out.on hb6)
          have hs5 := Lib.hid (hsz.out.on hb6)
          have hB5 := Lib.hid (hBz.out.trans (hb6.mono (by have := hBz.out.size; have := hn.out; omega)))
          clear hhz hBz hsz hb4 hb5 hb6 p0 p1
          go_wp2_with fail
          go_roundw
          case rel => exact ⟨g, k + 1, s, rfl, rfl, by simp, by omega, by omega, by omega, hg, hh5, hB5, hs5⟩
          case measure => simp [intOf]; omega
        · go_wp2_with fail
          refine (copy_any wq g (bytesOf s) hhz.out).mono ?_
          rintro z w4 ⟨rfl, hh4, hb4⟩
          have hB4 := Lib.hid (hBz.out.trans (hb4.mono (by have := hBz.out.size; have := hn.out; omega)))
          have hs4 := Lib.hid (hsz.out.on hb4)
          replace hh4 := Lib.hid hh4
          have hgq : n ≤ wq.heap.size := by omega
          clear hhz hBz hsz hb4 p0 p1
          go_wp2_with fail
          go_roundw
          case rel => exact ⟨_, k + 1, s, rfl, rfl, by simp, by omega, by omega, by omega, hgq, hh4, hB4, hs4⟩
          case measure => simp [intOf]; omega
      · have c2 : ¬ ((k : Int) < 20) := by omega
        go_wp2_with fail
        refine (sumOf_any g (bytesOf s) wr hhr.out (by omega) hsr.out).mono ?_
        rintro z w4 ⟨rfl, hb4⟩
        go_wp2_with fail
        refine (refSum_any s (by omega) w4).mono ?_
        rintro z w5 ⟨rfl, hb5⟩
        have hb6 := hb4.trans (hb5.mono hb4.size)
        have hB5 := Lib.hid (hBr.out.trans (hb6.mono (by have := hBr.out.size; have := hn.out; omega)))
        clear hhr hBr hsr hb4 hb5 hb6
        go_wp2
        go_ret
        rw [hn.out]
        exact ⟨rfl, hB5.out⟩
    · have c0 : ¬ ((k : Int) < (acts.length : Int)) := by omega
      go_wp2_with fail
      refine (sumOf_any g (bytesOf s) wr hhr.out (by omega) hsr.out).mono ?_
      rintro z w4 ⟨rfl, hb4⟩
      go_wp2_with fail
      refine (refSum_any s (by omega) w4).mono ?_
      rintro z w5 ⟨rfl, hb5⟩
      have hb6 := hb4.trans (hb5.mono hb4.size)
      have hB5 := Lib.hid (hBr.out.trans (hb6.mono (by have := hBr.out.size; have := hn.out; omega)))
      clear hhr hBr hsr hb4 hb5 hb6
      go_wp2
      go_ret
      rw [hn.out]
      exact ⟨rfl, hB5.out⟩

end Go.Proofs.YtkailfajemeeaaaDoor.Sha

/-
  ShaPieces: a text, written in pieces.
-/
import Derived.Test.YtkailfajemeeaaaDoorShaEq
import Derived.Test.YtkailfajemeeaaaDoorShaRefSum
import Derived.Test.YtkailfajemeeaaaDoorShaWorks
namespace Go.Proofs.YtkailfajemeeaaaDoor.Sha
open Go.RowKit Go.Sort Go.Shelf Go.Proofs.YtkailfajemeeaaaDoor.Mem Go.Proofs.YtkailfajemeeaaaDoor.Route
set_option linter.unusedVariables false

attribute [local go_sem] eq_sum
def byV (b : Int) : List Value := [.int .u8 b]
theorem all_on (c : ByteArray) (i j : Nat) (h : i ≤ j) (all : List Nat) (ha : all = bytesOf (c.extract 0 i)) : all ++ bytesOf (c.extract i j) = bytesOf (c.extract 0 j) := by rw [ha, bytesOf_on c i j h]

set_option maxRecDepth 100000 in
set_option maxHeartbeats 4000000 in
theorem pieces_walk (t : ByteArray) (xb : Option Addr) (Nb cb : Nat) (ps : List Int) (w : World) (hsg : Sg w) (hrow : RowB w.heap.size w (.slice xb Nb cb) 1 (ps.map byV)) (hby : ∀ y ∈ ps, 0 ≤ y ∧ y < 256) :
    Calls Tryd.prog 5 #[.string t, .slice xb Nb cb] w fun e w' => e = .returned (.bool true) ∧ Below w.heap.size w w' := by
  obtain ⟨n, hn⟩ : ∃ n, w.heap.size = n := ⟨_, rfl⟩
  have hp1 := hsg.posh
  have hp2 := hsg.posk
  rw [hn] at hp1 hp2
  have hnew := new_any w hsg
  rw [hn] at hnew
  obtain ⟨m, hm⟩ : ∃ m : Nat, min (t.size : Int) 500 = m := ⟨min t.size 500, by omega⟩
  have hm1 : m ≤ t.size := by omega
  have hm2 : m ≤ 500 := by omega
  have hNb : Nb = ps.length := by obtain ⟨x, c, e, _⟩ := hrow; cases e; simp
  subst hNb
  go_enter Tryd.func5, Tryd.ntmps5
  go_wp2_with fail
  refine hnew.mono ?_
  clear hnew
  rintro e w1 ⟨rfl, hh1, hb1⟩
  have hsg1 : Sg w1 := hsg.keep hb1 hp1 hp2
  replace hn := Lib.hid hn
  go_wp2_with fail
  refine (works_any w1 hsg1).mono ?_
  rintro e w2 ⟨rfl, hb2⟩
  have hsg2 := hsg1.on hb2
  have hh2 := hh1.on hb2
  have hB2 := hb1.trans (hb2.mono (Nat.le_of_lt hh1.inside))
  clear hb1 hb2 hh1 hsg1 hsg
  go_upto_region 5 with fail
  have hs : (t.extract 0 m).size ≤ 500 := by rw [size_cut t 0 m hm1]; omega
  generalize t.extract 0 m = c at hs ⊢
  clear hm hm1 hm2
  have hh2' : Hid (HashAt w2 n (bytesOf (c.extract 0 0))) := Lib.hid (by rw [bytesOf_upto]; exact hh2)
  replace hB2 := Lib.hid hB2
  replace hsg2 := Lib.hid hsg2
  clear hh2
  go_upto_region 7 with fail
  go_loopw [6, 7] (fun a i wr => ∃ (p k : Nat), a = .int .i64 (p : Int) ∧ i = .int .i64 (k : Int) ∧ p ≤ c.size ∧ k ≤ ps.length ∧ Hid (HashAt wr n (bytesOf (c.extract 0 p))) ∧ Hid (Below n w wr) ∧ Hid (Sg wr)) (fun _ i _ => ps.length - (intOf i).toNat)
  case atStart => exact ⟨0, 0, rfl, rfl, Nat.zero_le _, Nat.zero_le _, hh2', hB2, hsg2⟩
  case round =>
    clear hh2' hB2 hsg2
    obtain ⟨p, k, rfl, rfl, hp, hk, hhr, hBr, hsr⟩ := hrel
    have c1 : (k : Int) < 30 ↔ k < 30 := by omega
    by_cases h1 : k < ps.length
    · have c0 : ((k : Int) < (ps.length : Int)) := by omega
      by_cases h2 : k < 30
      · have c2 : ((k : Int) < 30) := by omega
        obtain ⟨y, hy⟩ : ∃ y, ps[k]? = some y := ⟨_, List.getElem?_eq_getElem h1⟩
        obtain ⟨gx, ox, rfl, hgx, hcx⟩ := RowB.row (RowB.keep hrow (by rw [hn.out]; exact hBr.out) (Nat.le_refl _)) (j := k) (r := byV y) (by rw [List.getElem?_map, hy]; rfl)
        have e0 := hcx 0 _ rfl
        have hyb := hby y (List.mem_of_getElem? hy)
        simp only [Nat.mul_one, Nat.add_zero] at e0
        obtain ⟨e, he⟩ : ∃ e : Nat, min ((p : Int) + y) (c.size : Int) = e := ⟨(min ((p : Int) + y) (c.size : Int)).toNat, by omega⟩
        have he1 : p ≤ e := by omega
        have he2 : e ≤ c.size := by omega
        clear c1 hcx
        have hw4 := write_any n (bytesOf (c.extract 0 p)) (c.extract p e) wr hhr.out (by rw [bytesOf_length, size_cut c 0 p hp, size_cut c p e he2]; omega) hsr.out (by omega) (by omega)
        rw [bytesOf_on c p e he1] at hw4
        have hn1 := hhr.out.inside
        go_wp2_with fail
        refine hw4.mono ?_
        clear hw4
        rintro z w4 ⟨⟨v4, rfl⟩, hh4, hg4⟩
        have hB4 := hBr.out.grown hg4 (by omega) (fun r e => by cases e; omega)
        have hsg4 : Sg w4 := hsr.out.same (hg4.block _ hsr.out.posh (by simp; omega)) (hg4.block _ hsr.out.posk (by simp; omega))
        clear hhr hBr hsr hg4
        go_upto_region 12 with fail
        have hln : (bytesOf (c.extract 0 e)).length < 800000 := by rw [bytesOf_length, size_cut c 0 e he2]; omega
        have cD := fun d os => Calls.regrown_of (sumOf_any n (bytesOf (c.extract 0 e)) _ (hh4.on (below_regrown w4 d os)) hln (hsg4.on (below_regrown w4 d os)))
        have cS := fun d os => Calls.regrown_of (psum_any (c.extract 0 e) (by rw [← bytesOf_length]; exact hln) _ (hsg4.on (below_regrown w4 d os)))
        refine wp_region_quiet_below (by kernel_rfl) (by kernel_rfl) ?_
        repeat (go_big_quiet_step (first | with_reducible exact cD _ _ | with_reducible exact cS _ _))
        refine wpQuiet_nil ?_
        intro _ hw'
        obtain ⟨⟨dq, osq⟩, hw''⟩ := hw'
        subst hw''
        have hbg := below_regrown w4 dq osq
        have hin := hh4.inside
        have hB5 := Lib.hid (hB4.trans (hbg.mono (by omega)))
        have hh5 := Lib.hid (hh4.on hbg)
        have hsg5 := Lib.hid (hsg4.on hbg)
        clear hB4 hbg hh4 hsg4 cD cS hln
        generalize grow (redrawn w4 dq) osq = w5 at hB5 hh5 hsg5 ⊢
        go_wp2_with fail
        go_roundw
        case rel => exact ⟨e, k + 1, rfl, by simp, he2, by omega, hh5, hB5, hsg5⟩
        case measure => simp [intOf]; omega
      · have c2 : ¬ ((k : Int) < 30) := by omega
        clear c1
        have hex : c.extract p (c.size) = c.extract p c.size := rfl
        have hw4 := write_any n (bytesOf (c.extract 0 p)) (c.extract p c.size) wr hhr.out (by rw [bytesOf_length, size_cut c 0 p hp, size_cut c p c.size (Nat.le_refl _)]; omega) hsr.out (by omega) (by omega)
        rw [bytesOf_on c p c.size hp, bytesOf_whole] at hw4
        have hn1 := hhr.out.inside
        go_wp2_with fail
        refine hw4.mono ?_
        clear hw4
        rintro e w4 ⟨⟨v4, rfl⟩, hh4, hg4⟩
        have hB4 := hBr.out.grown hg4 (by omega) (fun r e => by cases e; omega)
        have hsg4 : Sg w4 := hsr.out.same (hg4.block _ hsr.out.posh (by simp; omega)) (hg4.block _ hsr.out.posk (by simp; omega))
        clear hhr hBr hsr hg4
        go_wp2_with fail
        refine (sumOf_any n (bytesOf c) w4 hh4 (by rw [bytesOf_length]; omega) hsg4).mono ?_
        rintro e w5 ⟨rfl, hb5⟩
        have hsg5 := hsg4.on hb5
        go_wp2_with fail
        refine (psum_any c (by omega) w5 hsg5).mono ?_
        rintro e w6 ⟨rfl, hb6⟩
        have hin := hh4.inside
        have hsz := hb5.size
        have hB6 := Lib.hid ((hB4.trans (hb5.mono (by omega))).trans (hb6.mono (by omega)))
        clear hB4 hb5 hb6 hsg4 hsg5 hh4
        go_wp2
        go_ret
        rw [hn.out]
        exact ⟨rfl, hB6.out⟩
    · have c0 : ¬ ((k : Int) < (ps.length : Int)) := by omega
      clear c1
      have hex : c.extract p (c.size) = c.extract p c.size := rfl
      have hw4 := write_any n (bytesOf (c.extract 0 p)) (c.extract p c.size) wr hhr.out (by rw [bytesOf_length, size_cut c 0 p hp, size_cut c p c.size (Nat.le_refl _)]; omega) hsr.out (by omega) (by omega)
      rw [bytesOf_on c p c.size hp, bytesOf_whole] at hw4
      have hn1 := hhr.out.inside
      go_wp2_with fail
      refine hw4.mono ?_
      clear hw4
      rintro e w4 ⟨⟨v4, rfl⟩, hh4, hg4⟩
      have hB4 := hBr.out.grown hg4 (by omega) (fun r e => by cases e; omega)
      have hsg4 : Sg w4 := hsr.out.same (hg4.block _ hsr.out.posh (by simp; omega)) (hg4.block _ hsr.out.posk (by simp; omega))
      clear hhr hBr hsr hg4
      go_wp2_with fail
      refine (sumOf_any n (bytesOf c) w4 hh4 (by rw [bytesOf_length]; omega) hsg4).mono ?_
      rintro e w5 ⟨rfl, hb5⟩
      have hsg5 := hsg4.on hb5
      go_wp2_with fail
      refine (psum_any c (by omega) w5 hsg5).mono ?_
      rintro e w6 ⟨rfl, hb6⟩
      have hin := hh4.inside
      have hsz := hb5.size
      have hB6 := Lib.hid ((hB4.trans (hb5.mono (by omega))).trans (hb6.mono (by omega)))
      clear hB4 hb5 hb6 hsg4 hsg5 hh4
      go_wp2
      go_ret
      rw [hn.out]
      exact ⟨rfl, hB6.out⟩

end Go.Proofs.YtkailfajemeeaaaDoor.Sha

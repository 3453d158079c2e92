import Derived.Test.YtfoflfeaegfnnaaPkRouteRefWith

/-
  A route that is drawn by bytes: each two put in a request more.
-/
namespace Go.Proofs.Ytfoflfeaegfnnaa.Route
open Go.RowKit Go.Proofs.Ytfoflfeaegfnnaa.Mem
set_option linter.unusedVariables false

def byV (n : Int) : List Value := [.int .u8 n]
theorem bytes_open {B : Nat} {W : World} {v : Value} {bs : List Int} (h : RowB B W v 1 (bs.map byV)) : ∃ x N cap, v = .slice x N cap ∧ Hid (bs.length = N) ∧ N ≤ cap ∧ cap ≤ maxLen := by
  obtain ⟨x, cap, rfl, h1, h2, _⟩ := h
  exact ⟨x, bs.length, cap, by simp, Lib.hid rfl, by simpa using h1, h2⟩
theorem byte_at {B : Nat} {W : World} {x : Option Addr} {N cap k : Nat} {bs : List Int} {n : Int} (h : RowB B W (.slice x N cap) 1 (bs.map byV)) (hk : bs[k]? = some n) : ∃ g o, x = some ⟨g, o, none⟩ ∧ g < B ∧ W.cell? ⟨g, o + k, none⟩ = some (.int .u8 n) := by
  obtain ⟨g, o, e, hg, hc⟩ := RowB.row h (j := k) (r := byV n) (by rw [List.getElem?_map, hk]; rfl)
  exact ⟨g, o, e, hg, by simpa using hc 0 _ rfl⟩

/-- A drawn route: of the first k requests, each once. -/
def Drawn (l : List (Int × Int)) (k : Nat) : Prop := isR l = true ∧ l.length = 2 * k ∧ ∀ s ∈ l, s.1 < k
theorem Drawn.nil : Drawn [] 0 := ⟨rfl, rfl, fun s hs => by cases hs⟩
theorem Drawn.no {l : List (Int × Int)} {k : Nat} (h : Drawn l k) {r : Int} (hr : (k : Int) ≤ r) : noR r l = true := noR_iff.2 fun s hs => by have := h.2.2 s hs; omega
theorem Drawn.may {l : List (Int × Int)} {k : Nat} (h : Drawn l k) (hk : k < 7) {r i j : Int} (hr : (k : Int) ≤ r) (h0 : 0 ≤ i) (hij : i ≤ j) (hj : j ≤ 2 * k) : mayW l r i j = true :=
  mayW_iff.2 ⟨h0, hij, by rw [h.2.1]; omega, by omega, by rw [h.2.1]; omega, h.no hr⟩
theorem Drawn.next {l : List (Int × Int)} {k : Nat} (h : Drawn l k) {i j : Int} (hm : mayW l k i j = true) : Drawn (withV l k i j) (k + 1) := by
  obtain ⟨h1, h2, h3⟩ := h
  obtain ⟨m1, m2, m3, m4, m5, m6⟩ := mayW_iff.1 hm
  rw [with_yes hm]
  refine ⟨isR_with hm h1, ?_, fun s hs => ?_⟩
  · rw [withL_length (by omega) (by omega)]
    omega
  · unfold withL at hs
    simp only [List.mem_append, List.mem_cons] at hs
    rcases hs with hs | rfl | hs | rfl | hs
    · have := h3 s (List.mem_of_mem_take hs); omega
    · simp only; omega
    · have := h3 s (List.mem_of_mem_take (List.mem_of_mem_drop hs)); omega
    · simp only; omega
    · have := h3 s (List.mem_of_mem_drop hs); omega
theorem Drawn.nums {l : List (Int × Int)} {k : Nat} (h : Drawn l k) (hk : k ≤ 6) : Nums l := by
  intro s hs
  obtain ⟨h1, h2⟩ := isR_iff.1 h.1 s hs
  have h3 : s ∈ ofR s.1 l := mem_ofR.2 ⟨hs, rfl⟩
  rw [h2] at h3
  have h4 := h.2.2 s hs
  simp only [List.mem_cons, List.not_mem_nil, or_false] at h3
  refine ⟨⟨by omega, by omega⟩, ?_⟩
  rcases h3 with h3 | h3 <;> rw [h3] <;> exact ⟨by simp, by simp⟩

/-- The slice v holds a drawn route. -/
def MadeOk (n : Nat) (W : World) (v : Value) : Prop := ∃ l k, Row W.heap.size W v l ∧ Drawn l k ∧ k ≤ 6 ∧ 2 * k ≤ n

set_option maxRecDepth 100000 in
set_option maxHeartbeats 4000000 in
theorem Made_new (v : Value) (bs : List Int) (hb : ∀ x ∈ bs, 0 ≤ x ∧ x < 256) (w : World) (h : RowB w.heap.size w v 1 (bs.map byV)) :
    Calls Try.prog 16 #[v] w fun e w' => (∃ v', e = .returned v' ∧ MadeOk bs.length w' v' ∧ NewB w.heap.size v') ∧ Below w.heap.size w w' := by
  obtain ⟨x, N, cap, rfl, hN', hc1, hc2⟩ := bytes_open h
  have h' := Lib.hid h
  have hb' := Lib.hid hb
  unfold maxLen at hc2
  clear h hb
  go_enter Try.func16, Try.ntmps16
  go_wp2
  go_loopw [3, 4] (fun u i wr => ∃ (k : Nat) (l : List (Int × Int)), k ≤ 6 ∧ 2 * k ≤ N ∧ i = .int .i64 (2 * (k : Int)) ∧ Hid (Drawn l k) ∧ Hid (Row wr.heap.size wr u l ∧ NewB w.heap.size u) ∧ Below w.heap.size w wr)
    (fun _ i _ => 12 - (intOf i).toNat)
  case atStart => exact ⟨0, [], by omega, by omega, rfl, Lib.hid Drawn.nil, Lib.hid ⟨RowB.nil _ _ _, NewB.nil _⟩, Below.refl _ _⟩
  case round =>
    obtain ⟨k, l, hk, hk2, rfl, hD, hRN, hbw⟩ := hrel
    have hR := Lib.hid hRN.out.1
    have hN := Lib.hid hRN.out.2
    clear hRN
    obtain ⟨y, L, cl, rfl, hL, hy0, hc3, hc4⟩ := hR.out.opened
    have hLk : L = 2 * k := by rw [← hL.out, hD.out.2.1]
    subst hLk
    by_cases hlt : 2 * k + 1 < N ∧ k < 6
    · obtain ⟨hlt1, hlt2⟩ := hlt
      obtain ⟨x0, hx0⟩ : ∃ n, bs[2 * k]? = some n := ⟨bs[2 * k]'(by rw [hN'.out]; omega), List.getElem?_eq_getElem _⟩
      obtain ⟨x1, hx1⟩ : ∃ n, bs[2 * k + 1]? = some n := ⟨bs[2 * k + 1]'(by rw [hN'.out]; omega), List.getElem?_eq_getElem _⟩
      have hx0b := hb'.out _ (List.mem_of_getElem? hx0)
      have hx1b := hb'.out _ (List.mem_of_getElem? hx1)
      obtain ⟨g, o, rfl, hg, e1⟩ := byte_at h'.out hx0
      obtain ⟨g2, o2, eg, _, e2⟩ := byte_at h'.out hx1
      simp only [Option.some.injEq, Addr.mk.injEq] at eg
      obtain ⟨rfl, rfl, _⟩ := eg
      have e1 := (hbw.cell (p := ⟨g, o + 2 * k, none⟩) hg).trans e1
      have e2 := (hbw.cell (p := ⟨g, o + (2 * k + 1), none⟩) hg).trans e2
      clear hx0 hx1
      have hX1 : 0 ≤ x0 % (2 * (k : Int) + 1) := Int.emod_nonneg _ (by omega)
      have hX2 : x0 % (2 * (k : Int) + 1) < 2 * (k : Int) + 1 := Int.emod_lt_of_pos _ (by omega)
      have hY1 : 0 ≤ x1 % (2 * (k : Int) + 1) := Int.emod_nonneg _ (by omega)
      have hY2 : x1 % (2 * (k : Int) + 1) < 2 * (k : Int) + 1 := Int.emod_lt_of_pos _ (by omega)
      go_upto_region 5 with fail
      go_quiet (fail)
      generalize x0 % (2 * (k : Int) + 1) = X at *
      generalize x1 % (2 * (k : Int) + 1) = Y at *
      have hbq := below_drewN hbw nq
      have hRq : Hid (Row (wr.drewN nq).heap.size (wr.drewN nq) (.slice y (2 * k) cl) l) := Lib.hid (hR.out.on (below_drewN (Below.refl _ _) nq))
      generalize wr.drewN nq = w1 at *
      obtain ⟨I, hI1, hI2, hI3⟩ : ∃ I, min X Y = I ∧ 0 ≤ I ∧ I ≤ 2 * k := ⟨_, rfl, by omega, by omega⟩
      obtain ⟨J, hJ1, hJ2, hJ3⟩ : ∃ J, max X Y = J ∧ I ≤ J ∧ J ≤ 2 * k := ⟨_, rfl, by omega, by omega⟩
      have hm := Lib.hid (hD.out.may (by omega) (r := k) (i := I) (j := J) (Int.le_refl _) hI2 hJ2 hJ3)
      have hq : (2 * (k : Int)).tdiv 2 = k := by rw [Int.tdiv_eq_ediv_of_nonneg (by omega)]; omega
      clear e1 e2 hx0b hx1b
      go_wp2_with fail
      refine (refWith_new _ l k I J (by rw [hL.out]; omega) w1 hRq.out).mono ?_
      rintro e w2 ⟨⟨v2, rfl, hv2, hnv2⟩, hb2⟩
      have hnv := Lib.hid (fun q e => Nat.le_trans hbq.size (hnv2 q e) : NewB w.heap.size v2)
      clear hnv2
      have hD2 := hD.out.next hm.out
      have hB2 := hbq.trans (hb2.mono hbq.size)
      have hv2' := Lib.hid hv2
      have hD2' := Lib.hid hD2
      generalize withV l k I J = l2 at *
      obtain ⟨z, cz, rfl⟩ : ∃ z cz, v2 = .slice z l2.length cz := by
        obtain ⟨z, cz, e, _⟩ := hv2.slice
        exact ⟨z, cz, e⟩
      clear hv2 hD2 hb2 hbq hbw hR hm hI1 hJ1
      go_wp2
      go_roundw
      case rel => exact ⟨k + 1, l2, by omega, by omega, by go_num, hD2', Lib.hid ⟨hv2'.out, hnv.out⟩, hB2⟩
      case measure => simp [intOf]; omega
    · have hdn : Hid (Drawn l k ∧ k ≤ 6 ∧ 2 * k ≤ bs.length) := Lib.hid ⟨hD.out, hk, by rw [hN'.out]; exact hk2⟩
      by_cases h1 : 2 * k + 1 < N
      · have h2 : k = 6 := by omega
        subst h2
        go_wp2
        go_ret
        exact ⟨⟨_, rfl, ⟨l, 6, hR.out, hdn.out⟩, hN.out⟩, hbw⟩
      · go_wp2
        go_ret
        exact ⟨⟨_, rfl, ⟨l, k, hR.out, hdn.out⟩, hN.out⟩, hbw⟩

theorem Made_any (v : Value) (bs : List Int) (hb : ∀ x ∈ bs, 0 ≤ x ∧ x < 256) (w : World) (h : RowB w.heap.size w v 1 (bs.map byV)) :
    Calls Try.prog 16 #[v] w fun e w' => (∃ v', e = .returned v' ∧ MadeOk bs.length w' v') ∧ Below w.heap.size w w' :=
  (Made_new v bs hb w h).mono fun e w' ⟨⟨v', he, hm, _⟩, hb'⟩ => ⟨⟨v', he, hm⟩, hb'⟩

end Go.Proofs.Ytfoflfeaegfnnaa.Route

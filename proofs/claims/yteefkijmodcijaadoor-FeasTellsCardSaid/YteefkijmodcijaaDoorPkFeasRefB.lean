import Derived.Test.YteefkijmodcijaaDoorPkFeasRefA

/-
  The document's answer: what is on board behind a row.
-/
namespace Go.Proofs.YteefkijmodcijaaDoor.Feas
open Go.RowKit Go.Sort Go.Proofs.YteefkijmodcijaaDoor.Mem Go.Proofs.YteefkijmodcijaaDoor.Route Go.Proofs.YteefkijmodcijaaDoor.When Go.Proofs.YteefkijmodcijaaDoor.Load Go.Proofs.YteefkijmodcijaaDoor.Place
set_option linter.unusedVariables false

/-- The request of each stop is there. -/
def Ins (t : List Rq) (l : List (Int × Int)) : Prop := ∀ s ∈ l, 0 ≤ s.1 ∧ s.1 < t.length
theorem acc_abs {t : List Rq} (ht : ∀ q ∈ t, q.chk = 0) {l : List (Int × Int)} (h : Ins t l) : -(1000 * (l.length : Int)) ≤ acc t l ∧ acc t l ≤ 1000 * (l.length : Int) := by
  induction l with
  | nil => exact ⟨Int.le_refl _, Int.le_refl _⟩
  | cons s l ih =>
    have i := ih fun x hx => h x (List.mem_cons_of_mem _ hx)
    have hs := h s (List.mem_cons_self ..)
    have hq : t[s.1.toNat]? = some (t[s.1.toNat]'(by omega)) := List.getElem?_eq_getElem _
    have hl := chk_ld ht _ (List.getElem_mem (h := (by omega : s.1.toNat < t.length)))
    have e : acc t (s :: l) = sg s.2 * ldR t s.1 + acc t l := rfl
    rw [e, ldR_get hq, List.length_cons]
    unfold sg
    split <;> omega

set_option maxRecDepth 100000 in
set_option maxHeartbeats 2000000 in
theorem Board_any (vl vt : Value) (l : List (Int × Int)) (t : List Rq) (hl : l.length ≤ 1000000) (ht : ∀ q ∈ t, q.chk = 0) (hin : Ins t l) (w : World) (hL : Row w.heap.size w vl l) (hT : Rqs w.heap.size w vt t) :
    Calls Tryd.prog 51 #[vl, vt] w fun e w' => e = .returned (.int .i64 (acc t l)) ∧ Below w.heap.size w w' := by
  obtain ⟨xt, Nt, capt, rfl, hNt, htc1, htc2, ht0⟩ := hT.opened
  obtain ⟨xl, N, cap, rfl, hN', h0', hc1, hc2⟩ := hL.opened
  have hNt' := Lib.hid hNt
  have hL' := Lib.hid hL
  have hT' := Lib.hid hT
  have hlN : N ≤ 1000000 := by rw [← hN'.out]; exact hl
  have hin' := Lib.hid hin
  have ht' := Lib.hid ht
  unfold maxLen at htc2 hc2
  clear hT hNt ht0 hL hl h0' hin ht
  go_enter Tryd.func51, Tryd.ntmps51
  go_wp2
  go_loopw [5, 6] (fun n i wr => ∃ (k : Nat), k ≤ N ∧ i = .int .i64 k ∧ n = .int .i64 (acc t (l.take k)) ∧ Below w.heap.size w wr) (fun _ i _ => N - (intOf i).toNat)
  case atStart => exact ⟨0, by omega, rfl, rfl, Below.refl _ _⟩
  case round =>
    obtain ⟨k, hk, rfl, rfl, hbw⟩ := hrel
    by_cases hlt : k < N
    · obtain ⟨⟨s1, s2⟩, hs⟩ : ∃ s, l[k]? = some s := ⟨l[k]'(by rw [hN'.out]; exact hlt), List.getElem?_eq_getElem _⟩
      have hbd := acc_abs ht'.out (l := l.take k) (fun x hx => hin'.out x (List.mem_of_mem_take hx))
      obtain ⟨hr0, hr1⟩ := hin'.out _ (List.mem_of_getElem? hs)
      simp only at hr0 hr1
      obtain ⟨r, rfl⟩ : ∃ r : Nat, s1 = r := ⟨s1.toNat, by omega⟩
      have hrN : r < Nt := by have := hNt'.out; omega
      have hq : t[r]? = some (t[r]'(by rw [hNt'.out]; exact hrN)) := List.getElem?_eq_getElem _
      have hld := chk_ld ht'.out _ (List.getElem_mem (h := (by rw [hNt'.out]; exact hrN : r < t.length)))
      have hac : Hid (acc t (l.take (k + 1)) = acc t (l.take k) + sg s2 * (t[r]'(by rw [hNt'.out]; exact hrN)).ld) := Lib.hid (by
        rw [Route.take_get hs, acc_snoc]
        unfold stN
        rw [ldR_get (r := (r : Int)) (show t[((r : Int)).toNat]? = some _ from hq)])
      generalize (t[r]'(by rw [hNt'.out]; exact hrN)) = y at *
      obtain ⟨g, o, rfl, hg, e1, e2⟩ := Row.stop (hL'.out.keep hbw (Nat.le_refl _)) hs
      obtain ⟨gt, ot, rfl, hgt, -, -, -, -, -, -, -, -, d8, -⟩ := Rqs.at (hT'.out.keep hbw (Nat.le_refl _)) hq
      obtain ⟨hb1, hb2⟩ := hbd
      obtain ⟨hl1, hl2⟩ := hld
      have hlk : ((l.take k).length : Int) ≤ 1000000 := by rw [List.length_take]; omega
      obtain ⟨A, hA⟩ : ∃ A, acc t (l.take k) = A := ⟨_, rfl⟩
      rw [hA] at hb1 hb2 hac ⊢
      have ha1 : -1000000000 ≤ A := by omega
      have ha2 : A ≤ 1000000000 := by omega
      have hlti : (k : Int) < N := by omega
      have hrNi : (r : Int) < Nt := by omega
      simp only at e1 e2
      clear hs hq hr0 hr1 hb1 hb2 hlk hA
      by_cases h0 : s2 = 0
      · subst h0
        have hac2 := Lib.hid (show acc t (l.take (k + 1)) = A + y.ld by rw [hac.out]; simp [sg])
        clear hac
        go_wp2
        go_roundw
        case rel => exact ⟨k + 1, by omega, by go_num, by rw [hac2.out], hbw⟩
        case measure => simp [intOf]; omega
      · have h00 : (s2 == 0) = false := by simpa using h0
        have hac2 := Lib.hid (show acc t (l.take (k + 1)) = A - y.ld by rw [hac.out]; simp [sg, h0]; omega)
        clear hac h0
        go_wp2
        go_roundw
        case rel => exact ⟨k + 1, by omega, by go_num, by rw [hac2.out], hbw⟩
        case measure => simp [intOf]; omega
    · obtain rfl : k = N := by omega
      have he : Hid (acc t (l.take k) = acc t l) := Lib.hid (by rw [← hN'.out, List.take_length])
      generalize acc t (l.take k) = A at *
      go_wp2
      go_ret
      exact ⟨Route.ret_int he.out, hbw⟩

end Go.Proofs.YteefkijmodcijaaDoor.Feas

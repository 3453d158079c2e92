/-
  Contract of the answer's own Owner, and of its small fault.
-/
import Derived.Test.YtlkijbakfoabaaaDoorSceneOwners
import Derived.Test.YtlkijbakfoabaaaDoorOrderChkRef
namespace Go.Proofs.YtlkijbakfoabaaaDoor.Scene
open Go.RowKit Go.Proofs.YtlkijbakfoabaaaDoor.Mem
set_option linter.unusedVariables false

theorem pairsL_append (c : Nat) (a b : List Cr) : pairsL c (a ++ b) = pairsL c a ++ pairsL (c + a.length) b := by
  induction a generalizing c with
  | nil => simp [pairsL]
  | cons x a ih =>
    rw [List.cons_append, pairsL_cons, pairsL_cons, ih, List.append_assoc, List.length_cons]
    congr 3
    omega
theorem take_succ {α : Type} {l : List α} {k : Nat} {q : α} (hq : l[k]? = some q) : l.take (k + 1) = l.take k ++ [q] := by
  rw [List.take_add_one, hq]; rfl
theorem pairsL_take {l : List Cr} {k : Nat} {q : Cr} (hq : l[k]? = some q) : pairsL 0 (l.take (k + 1)) = pairsL 0 (l.take k) ++ pairsC k q := by
  have hk : k < l.length := (List.getElem?_eq_some_iff.1 hq).1
  rw [take_succ hq, pairsL_append]
  simp [pairsL, List.length_take, Nat.min_eq_left (Nat.le_of_lt hk)]
theorem whoP_left {a b : List (Int × Int)} {r : Int} (h : inP r a = true) : whoP (a ++ b) r = whoP a r := by
  rw [← whoP_some] at h
  unfold whoP at h ⊢
  rw [List.find?_append]
  cases hf : a.find? (fun p => p.1 == r) with
  | none => rw [hf] at h; cases h
  | some p => rfl
theorem whoP_right {a b : List (Int × Int)} {r : Int} (h : inP r a = false) : whoP (a ++ b) r = whoP b r := by
  rw [← whoP_some] at h
  unfold whoP at h ⊢
  rw [List.find?_append]
  cases hf : a.find? (fun p => p.1 == r) with
  | none => rfl
  | some p => rw [hf] at h; cases h
theorem inP_pairsC (c : Int) (q : Cr) (r : Int) : inP r (pairsC c q) = decide (r ∈ q.own) := by
  rw [Bool.eq_iff_iff]
  simp [inP, pairsC]
theorem whoP_pairsC {c : Int} {q : Cr} {r : Int} (h : r ∈ q.own) : whoP (pairsC c q) r = some c := by
  have h1 : inP r (pairsC c q) = true := by rw [inP_pairsC]; simpa using h
  rw [← whoP_some] at h1
  unfold whoP at h1 ⊢
  cases hf : (pairsC c q).find? (fun p => p.1 == r) with
  | none => rw [hf] at h1; cases h1
  | some p =>
    have := List.mem_of_find?_eq_some hf
    simp only [pairsC, List.mem_map] at this
    obtain ⟨_, _, rfl⟩ := this
    rfl

/-- Who has a request, of the carriers ahead of one. -/
def ownA (s : Sc) (r : Int) (a : Nat) : Int := (whoP (pairsL 0 (s.cars.take a)) r).getD (-1)
theorem ownA_none {s : Sc} {r : Int} {a k : Nat} (h : inP r (pairsL 0 (s.cars.take k)) = false) (hk : s.cars.take a = s.cars.take k) : ownA s r a = -1 := by
  unfold ownA
  rw [hk]
  rw [← whoP_some] at h
  cases hw : whoP (pairsL 0 (s.cars.take k)) r with
  | none => rfl
  | some c => rw [hw] at h; cases h
theorem ownA_some {s : Sc} {r : Int} {a k : Nat} {q : Cr} (h : inP r (pairsL 0 (s.cars.take k)) = false) (hq : s.cars[k]? = some q) (hr : r ∈ q.own) (hk : k < a) : ownA s r a = k := by
  unfold ownA
  have e : s.cars.take a = s.cars.take (k + 1) ++ (s.cars.take a).drop (k + 1) := by
    have := (List.take_append_drop (k + 1) (s.cars.take a)).symm
    rwa [List.take_take, Nat.min_eq_left (by omega)] at this
  rw [e, pairsL_append, pairsL_take hq, List.append_assoc, whoP_right h, whoP_left (by rw [inP_pairsC]; simpa using hr), whoP_pairsC hr]
  rfl
theorem ownA_all (s : Sc) (r : Int) : ownA s r s.cars.length = ownerV s r := by
  unfold ownA ownerV
  rw [List.take_length]
theorem ownA_pos (s : Sc) (r : Int) (a : Nat) : decide (0 ≤ ownA s r a) = inP r (pairsL 0 (s.cars.take a)) := by
  unfold ownA
  rw [← whoP_some]
  have hpos : ∀ c (l : List Cr) p, p ∈ pairsL c l → 0 ≤ p.2 := by
    intro c l
    induction l generalizing c with
    | nil => intro p hp; cases hp
    | cons x l ih =>
      intro p hp
      rw [pairsL_cons] at hp
      rcases List.mem_append.1 hp with hp | hp
      · simp only [pairsC, List.mem_map] at hp
        obtain ⟨_, _, rfl⟩ := hp
        exact Int.natCast_nonneg _
      · exact ih _ _ hp
  cases hw : whoP (pairsL 0 (s.cars.take a)) r with
  | none => rfl
  | some c =>
    unfold whoP at hw
    cases hf : (pairsL 0 (s.cars.take a)).find? (fun p => p.1 == r) with
    | none => rw [hf] at hw; cases hw
    | some p =>
      rw [hf] at hw
      cases hw
      have := hpos 0 _ p (List.mem_of_find?_eq_some hf)
      simpa using this
theorem mem_of_take {r : Int} {l : List Int} {j : Nat} (hj : l[j]? = some r) : r ∈ l := List.mem_of_getElem? hj
theorem not_mem_drop {r : Int} {l : List Int} (h : ∀ x ∈ l, x ≠ r) : r ∉ l := fun hm => h r hm rfl

theorem refFault_any (c p i : Int) (w : World) :
    Calls Tryd.prog 27 #[.int .i64 c, .int .i64 p, .int .i64 i] w fun e w' => e = .returned (.agg #[.int .i64 c, .int .i64 p, .int .i64 i]) ∧ Below w.heap.size w w' := by
  go_enter Tryd.func27, Tryd.ntmps27
  go_wp2
  exact bodyPost_ret (v := .agg #[.int .i64 c, .int .i64 p, .int .i64 i]) (by simp [results, Tryd.results27, go_sem]) rfl ⟨rfl, (Below.refl _ _).alloc (Nat.le_refl _) _⟩

set_option maxRecDepth 100000 in
set_option maxHeartbeats 4000000 in
theorem refOwner_any (s : Sc) (vR vC vL vD : Value) (us : List (Value × Value)) (cm rv sch r : Int) (a : Nat) (ha : a ≤ 140737488355328) (B : Nat) (w : World) (hBw : B ≤ w.heap.size) (h : SceneAt B w vR vC vL vD us s) :
    Calls Tryd.prog 31 #[.agg #[vR, vC, vL, .int .i64 cm, .int .i64 rv, .int .i64 sch, vD], .int .i64 r, .int .i64 a] w fun e w' => e = .returned (.int .i64 (ownA s r a)) ∧ Below w.heap.size w w' := by
  have hRV := h.reqs
  have hCV := h.cars.row
  have hus := h.cars.len
  have hLV := h.lots
  have hDV := h.draws
  obtain ⟨xR, capR, rfl, hlenR, hcapR, _⟩ := hRV
  obtain ⟨xC, capC, rfl, hlenC, hcapC, _⟩ := hCV
  obtain ⟨xL, capL, rfl, _, _, _⟩ := hLV
  obtain ⟨xD, capD, rfl, _, _⟩ := hDV
  simp only [List.length_map, hus] at hlenC h ⊢
  unfold maxLen at hcapC
  have h1 := Lib.hid (h.keep (Below.alloc (Below.refl w.heap.size w) (Nat.le_refl _) (.cells #[.slice xR s.reqs.length capR, .slice xC s.cars.length capC, .slice xL s.lots.length capL, .int .i64 cm, .int .i64 rv, .int .i64 sch, .slice xD s.draws capD] 33)) hBw)
  have hP := At.new w 33 #[.slice xR s.reqs.length capR, .slice xC s.cars.length capC, .slice xL s.lots.length capL, .int .i64 cm, .int .i64 rv, .int .i64 sch, .slice xD s.draws capD]
  have hb : Below w.heap.size w (w.alloc (.cells #[.slice xR s.reqs.length capR, .slice xC s.cars.length capC, .slice xL s.lots.length capL, .int .i64 cm, .int .i64 rv, .int .i64 sch, .slice xD s.draws capD] 33)) := (Below.refl _ _).alloc (Nat.le_refl _) _
  clear h hus hlenR hcapR
  go_enter Tryd.func31, Tryd.ntmps31
  go_wp2_with fail
  generalize (w.alloc (.cells #[.slice xR s.reqs.length capR, .slice xC s.cars.length capC, .slice xL s.lots.length capL, .int .i64 cm, .int .i64 rv, .int .i64 sch, .slice xD s.draws capD] 33)) = w1 at *
  have p1 := hP.cell 1
  simp at p1
  clear hP
  go_loop [7] (fun i => ∃ k : Nat, i = .int .i64 k ∧ k ≤ s.cars.length ∧ k ≤ a ∧ inP r (pairsL 0 (s.cars.take k)) = false) (fun i => s.cars.length - (intOf i).toNat)
  case atStart => exact ⟨0, rfl, Nat.zero_le _, Nat.zero_le _, rfl⟩
  case round =>
    obtain ⟨k, rfl, hk, hkle, hin⟩ := hrel
    by_cases hka : k < a
    · by_cases hkl : k < s.cars.length
      · have hq : s.cars[k]? = some (s.cars[k]'hkl) := List.getElem?_eq_getElem hkl
        generalize s.cars[k]'hkl = q at hq
        obtain ⟨xF, capF, xO, capO, huk, _, _, hlenO, hcapO, hk3⟩ := h1.out.cars.get hq
        obtain ⟨g, o, rfl, hgB, hc⟩ := RowB.row h1.out.cars.row hk3
        unfold maxLen at hcapO
        have c1 := hc 1 _ rfl
        clear hc hk3
        have huk' := Lib.hid huk
        have hq' := Lib.hid hq
        have hin' := Lib.hid hin
        clear huk hq hin
        go_wp2_with fail
        go_loop [8] (fun i => ∃ j : Nat, i = .int .i64 j ∧ j ≤ q.own.length ∧ ∀ x ∈ q.own.take j, x ≠ r) (fun i => q.own.length - (intOf i).toNat)
        case atStart => exact ⟨0, rfl, Nat.zero_le _, fun x hx => by simp at hx⟩
        case round =>
          obtain ⟨j, rfl, hj, hno⟩ := hrel
          by_cases hjl : j < q.own.length
          · have hx : q.own[j]? = some (q.own[j]'hjl) := List.getElem?_eq_getElem hjl
            generalize q.own[j]'hjl = x at hx
            obtain ⟨gO, oO, rfl, hgO, hc⟩ := RowB.row (h1.out.cars.car k _ q huk'.out hq'.out).own (j := j) (r := inV x) (by rw [List.getElem?_map, hx]; rfl)
            have c0 := hc 0 _ rfl
            clear hc
            simp at c0
            have hno' := Lib.hid hno
            have hx' := Lib.hid hx
            clear hno hx
            cases hxr : (x == r)
            · go_wp2
              go_round
              case rel =>
                refine ⟨j + 1, by go_num, hjl, ?_⟩
                intro y hy
                rw [take_succ hx'.out] at hy
                rcases List.mem_append.1 hy with hy | hy
                · exact hno'.out y hy
                · obtain rfl := List.mem_singleton.1 hy
                  exact beq_eq_false_iff_ne.1 hxr
              case measure => simp [intOf]; omega
            · have hE := Lib.hid (ownA_some hin'.out hq'.out (by have := beq_iff_eq.1 hxr; subst this; exact List.mem_of_getElem? hx'.out) hka)
              go_wp2
              go_ret
              exact ⟨ret_int hE.out.symm, hb⟩
          · obtain rfl : j = q.own.length := by omega
            have hn : Hid (inP r (pairsL 0 (s.cars.take (k + 1))) = false) := Lib.hid (by
              rw [pairsL_take hq'.out, inP_append, hin'.out, inP_pairsC]
              rw [List.take_length] at hno
              simpa using not_mem_drop hno)
            clear hno
            go_wp2
            go_round
            case rel => exact ⟨k + 1, by go_num, hkl, hka, hn.out⟩
            case measure => simp [intOf]; omega
      · have hE := Lib.hid (ownA_none (a := a) hin (by rw [List.take_of_length_le (by omega), List.take_of_length_le (by omega)]))
        clear hin
        go_wp2
        go_ret
        exact ⟨ret_int hE.out.symm, hb⟩
    · have hE : Hid (ownA s r a = -1) := Lib.hid (ownA_none hin (by rw [show k = a by omega]))
      clear hin
      go_wp2
      go_ret
      exact ⟨ret_int hE.out.symm, hb⟩

end Go.Proofs.YtlkijbakfoabaaaDoor.Scene

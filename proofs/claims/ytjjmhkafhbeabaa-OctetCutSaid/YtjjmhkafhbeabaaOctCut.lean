/-
  The law's parts, as many as are asked of: a row of its own.
-/
import Derived.Test.YtjjmhkafhbeabaaOctPart
namespace Go.Proofs.Ytjjmhkafhbeabaa.Oct
open Go.RowKit Go.Sort Go.Proofs.Ytjjmhkafhbeabaa.Mem Go.Proofs.Ytjjmhkafhbeabaa.Route
set_option linter.unusedVariables false
attribute [local go_sem] str_append str_from str_to

def flatP (l : List Part) : List Value := (l.map partV).flatten
theorem flatP_snoc (l : List Part) (p : Part) : flatP (l ++ [p]) = flatP l ++ partV p := by simp [flatP]
def cutL (l : List Part) : List Part := (l.take 16).map Part.cut
theorem owns_slice {W : World} {base size k : Nat} {e : TypeId} {v : Value} {xs : List Value} (h : W.ownsRow base e size v k xs) : ∃ x cap, v = .slice x k cap ∧ cap ≤ maxLen ∧ k ≤ cap := by
  obtain ⟨hl, ⟨rfl, rfl⟩ | ⟨g, cap, cur, rfl, hb, hg, hc1, hc2, hs, ht⟩⟩ := h
  · exact ⟨none, 0, rfl, by decide, Nat.le_refl _⟩
  · exact ⟨_, _, rfl, hc2, hc1⟩
theorem partV_len : ∀ l : List Part, ∀ r ∈ l.map partV, r.length = 4 := fun l r hr => by
  obtain ⟨p, -, rfl⟩ := List.mem_map.1 hr
  rfl
/-- The cells of the k-th part. -/
theorem part_at {B : Nat} {W : World} {x : Option Addr} {n cap : Nat} {l : List Part} (h : RowB B W (.slice x n cap) 4 (l.map partV)) {k : Nat} {p : Part} (hk : l[k]? = some p) :
    ∃ g o, x = some ⟨g, o, none⟩ ∧ g < B ∧ W.cell? ⟨g, o + k * 4, none⟩ = some (.int .u64 (p.n : Int)) ∧ W.cell? ⟨g, o + k * 4 + 1, none⟩ = some (.int .u8 (p.w : Int)) ∧ W.cell? ⟨g, o + k * 4 + 2, none⟩ = some (.string (str p.text)) ∧ W.cell? ⟨g, o + k * 4 + 3, none⟩ = some (.bool p.is) := by
  obtain ⟨g, o, e, hg, hc⟩ := h.row (j := k) (r := partV p) (by rw [List.getElem?_map, hk]; rfl)
  exact ⟨g, o, e, hg, by simpa using hc 0 _ rfl, hc 1 _ rfl, hc 2 _ rfl, hc 3 _ rfl⟩
theorem info_partS : (Try.prog.info? 53).map (fun i => (i.zero, i.size, i.bytes)) = some (some (.agg #[.int .u64 0, .int .u8 0, .string ⟨#[]⟩, .bool false]), 4, 40) := by kernel_rfl

set_option maxRecDepth 100000 in
set_option maxHeartbeats 8000000 in
theorem cut_any (x : Option Addr) (N cap : Nat) (ps : List Part) (w : World) (hrow : RowB w.heap.size w (.slice x N cap) 4 (ps.map partV)) :
    Calls Try.prog 23 #[.slice x N cap] w fun e w' => (∃ v, e = .returned v ∧ w'.ownsRow w.heap.size 53 4 v (cutL ps).length (flatP (cutL ps))) ∧ Below w.heap.size w w' := by
  have hN : ps.length = N := by
    obtain ⟨x', cap', e, -⟩ := hrow
    cases e
    simp
  obtain ⟨i0, hi, hz0, hz1, hz2⟩ := info_parts info_partS
  replace hrow := Lib.hid hrow
  replace hN := Lib.hid hN
  go_enter Try.func23, Try.ntmps23
  go_wp2_with fail
  go_loopw [3, 4] (fun v c wr => ∃ (i : Nat), c = .int .i64 (i : Int) ∧ i ≤ 16 ∧ i ≤ N ∧ Hid (wr.ownsRow w.heap.size 53 4 v i (flatP ((ps.take i).map Part.cut))) ∧ Hid (Below w.heap.size w wr))
    (fun _ c _ => 16 - (intOf c).toNat)
  case atStart => exact ⟨0, rfl, by omega, by omega, Lib.hid (World.ownsRow_nil _ _ _ _), Lib.hid (Below.refl _ _)⟩
  case round =>
    obtain ⟨wi, hwi⟩ : ∃ wi, wi = wr := ⟨_, rfl⟩
    subst hwi
    obtain ⟨i, rfl, hi16, hiN, hown, hB⟩ := hrel
    obtain ⟨xo, co, rfl, hco1, hco2⟩ := owns_slice hown.out
    have hsz := hB.out.size
    by_cases hlt : i < N
    case neg =>
      obtain rfl : i = N := by omega
      have hc : cutL ps = (ps.take i).map Part.cut := by
        unfold cutL
        rw [List.take_of_length_le (by rw [hN.out]; exact hi16), List.take_of_length_le (by rw [hN.out]; exact Nat.le_refl _)]
      have hl : (cutL ps).length = i := by rw [hc, List.length_map, List.length_take, hN.out]; omega
      have hf := Lib.hid (show wi.ownsRow w.heap.size 53 4 (.slice xo i co) (cutL ps).length (flatP (cutL ps)) by rw [hl, hc]; exact hown.out)
      clear hc hl hlt hco1 hco2
      go_wp2
      go_ret
      exact ⟨⟨_, rfl, hf.out⟩, hB.out⟩
    by_cases h16 : i < 16
    case neg =>
      obtain rfl : i = 16 := by omega
      have hl : (cutL ps).length = 16 := by unfold cutL; rw [List.length_map, List.length_take, hN.out]; omega
      have hf := Lib.hid (show wi.ownsRow w.heap.size 53 4 (.slice xo 16 co) (cutL ps).length (flatP (cutL ps)) by rw [hl]; exact hown.out)
      have hlt' : (16 : Int) < (N : Int) := by omega
      simp only [show ((16 : Nat) : Int) = 16 from rfl]
      clear hl h16 hco1 hco2
      go_wp2
      go_ret
      exact ⟨⟨_, rfl, hf.out⟩, hB.out⟩
    have hlt' : (i : Int) < (N : Int) := by omega
    have h16' : (i : Int) < 16 := by omega
    obtain ⟨p, hp⟩ : ∃ p, ps[i]? = some p := ⟨_, List.getElem?_eq_getElem (by rw [hN.out]; exact hlt)⟩
    obtain ⟨g, o, rfl, hg, c0, c1, c2, c3⟩ := part_at (hrow.out.keep hB.out (Nat.le_refl _)) hp
    have hsn := Lib.hid (show flatP ((ps.take (i + 1)).map Part.cut) = flatP ((ps.take i).map Part.cut) ++ partV p.cut by
      rw [List.take_add_one, hp, Option.toList_some, List.map_append]
      exact flatP_snoc _ _)
    obtain ⟨n, k, t, b⟩ := p
    obtain ⟨m, hm⟩ : ∃ m : Nat, min (t.length : Int) 300 = m := ⟨min t.length 300, by omega⟩
    have hml : (m : Int) ≤ (t.length : Int) := by omega
    have htk : t.take m = t.take 300 := by
      rcases Nat.le_total t.length 300 with h | h
      · rw [List.take_of_length_le (by omega), List.take_of_length_le h]
      · rw [show m = 300 by omega]
    simp only at c0 c1 c2 c3
    clear hp hco1 hco2
    go_upto_region 7 with fail
    have hown1 := hown.out.alloc (.cells #[.int .u64 (n : Int), .int .u8 (k : Int), .string (str (t.take 300)), .bool b] 53)
    have hB1 := hB.out.alloc hsz (.cells #[.int .u64 (n : Int), .int .u8 (k : Int), .string (str (t.take 300)), .bool b] 53)
    have hA1 := At.new wi 53 #[.int .u64 (n : Int), .int .u8 (k : Int), .string (str (t.take 300)), .bool b]
    generalize wi.alloc (.cells #[.int .u64 (n : Int), .int .u8 (k : Int), .string (str (t.take 300)), .bool b] 53) = w1 at hown1 hB1 hA1 ⊢
    have d0 := hA1.cell 0
    have d1 := hA1.cell 1
    have d2 := hA1.cell 2
    have d3 := hA1.cell 3
    simp at d0 d1 d2 d3
    have hin1 := hA1.inside
    have hz1' := hB1.size
    have hrw := Lib.hid (owns_row hown.out)
    clear hA1 c0 c1 c2 c3 hB hown
    go_wp2_with (at_builtin; refine wpList_append_own _ rfl _ _ 44 rfl w.heap.size 53 i0 (.agg #[.int .u64 0, .int .u8 0, .string ⟨#[]⟩, .bool false]) 4 40 Try.underlying44 hi hz0 hz1 hz2 rfl (by decide) _ _ _ rfl (hown1.alloc _) ⟨w1.heap.size, 0, none⟩ 1 1 [.int .u64 (n : Int), .int .u8 (k : Int), .string (str (t.take 300)), .bool b] rfl rfl (World.news_of_block (cs := #[.int .u64 (n : Int), .int .u8 (k : Int), .string (str (t.take 300)), .bool b]) (t := 53) (fr := (0, 0)) (heap_alloc_new w1 _)) (by simp [Value.oneCell']) (by unfold maxLen; omega) (by omega) (by simp; omega) ?_; intro v7 w7 hown7 hgrow7 hnil7)
    have hb7 := Lib.hid ((hB1.alloc (by omega) (.cells #[.int .u64 (n : Int), .int .u8 (k : Int), .string (str (t.take 300)), .bool b] 53)).grown hgrow7 (by simp; omega) (fun r e => hrw.out r e))
    have ho7 := Lib.hid (show w7.ownsRow w.heap.size 53 4 v7 (i + 1) (flatP ((ps.take (i + 1)).map Part.cut)) by rw [hsn.out]; exact hown7)
    clear hown7 hgrow7 hnil7 hB1 hown1
    go_wp2_with fail
    go_roundw
    case rel => exact ⟨i + 1, by go_num, by omega, by omega, ho7, hb7⟩
    case measure => simp [intOf]; omega

end Go.Proofs.Ytjjmhkafhbeabaa.Oct

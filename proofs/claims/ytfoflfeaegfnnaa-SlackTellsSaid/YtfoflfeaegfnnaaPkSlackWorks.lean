import Derived.Test.YtfoflfeaegfnnaaPkSlackPush2
import Derived.Test.YtfoflfeaegfnnaaPkSlackInts

/-
  'works': the chapter's examples hold.
-/
namespace Go.Proofs.Ytfoflfeaegfnnaa.Slack
open Go.RowKit Go.Sort Go.Proofs.Ytfoflfeaegfnnaa.Mem Go.Proofs.Ytfoflfeaegfnnaa.Route Go.Proofs.Ytfoflfeaegfnnaa.When Go.Proofs.Ytfoflfeaegfnnaa.Tail
set_option linter.unusedVariables false

theorem row_of {W : World} {g : Nat} {t : TypeId} {cs : Array Value} {l : List (Int × Int)} (h : At W g t cs) (hcs : cs.toList = flatS l) (hm : l.length ≤ maxLen) : Row W.heap.size W (.slice (some ⟨g, 0, none⟩) l.length l.length) l := by
  have h1 := RowB.of_at (B := W.heap.size) (m := 2) (cap := l.length) (rows := l.map stV) h h.inside (fun r hr => by obtain ⟨s, _, rfl⟩ := List.mem_map.1 hr; rfl)
    (fun i u hu => by
      have : cs.toList[i]? = some u := by rw [hcs]; exact hu
      simpa using this) (by simp) hm
  rw [List.length_map] at h1
  exact h1
theorem rqs_of {W : World} {g : Nat} {t : TypeId} {cs : Array Value} {l : List Rq} (h : At W g t cs) (hcs : cs.toList = (l.map rqV).flatten) {k c : Nat} (hk : k ≤ l.length) (hc : k ≤ c) (hm : c ≤ maxLen) : Rqs W.heap.size W (.slice (some ⟨g, 0, none⟩) k c) (l.take k) := by
  have h1 := RowB.of_at (B := W.heap.size) (m := 10) (cap := c) (rows := (l.take k).map rqV) h h.inside (fun r hr => by obtain ⟨s, _, rfl⟩ := List.mem_map.1 hr; rfl)
    (fun i u hu => by
      have e : (l.map rqV).flatten = ((l.take k).map rqV).flatten ++ ((l.drop k).map rqV).flatten := by rw [← List.flatten_append, ← List.map_append, List.take_append_drop]
      have : cs.toList[i]? = some u := by
        rw [hcs, e, List.getElem?_append_left (List.getElem?_eq_some_iff.1 hu).1]
        exact hu
      simpa using this) (by simp; omega) hm
  simp only [List.length_map, List.length_take, Nat.min_eq_left hk] at h1
  exact h1
theorem nums_small {l : List (Int × Int)} (h : ∀ s ∈ l, (-1000 ≤ s.1 ∧ s.1 ≤ 1000) ∧ -1000 ≤ s.2 ∧ s.2 ≤ 1000) : Nums l := fun s hs => by
  have := h s hs
  unfold I64
  omega

def vW : Vh := ⟨0, 0, 9, 0, 40⟩
def qW : Rq := ⟨5, 0, 9, 0, 0, 20, 0, 30, 1, 1⟩
def lW : List (Int × Int) := [(0, 0), (0, 1)]
theorem lW_nums : Nums lW := nums_small (by decide)
theorem wk1 : errT vW lW [qW] = 0 := by decide +kernel
theorem wk2 : latestV vW lW [qW] = [20, 30] := by decide +kernel
theorem wk3 : floatV vW lW [qW] = [15, 20] := by decide +kernel
theorem wk4 : pushE vW lW [qW] 0 15 = 0 := by decide +kernel
theorem wk5 : pushT vW lW [qW] 0 15 = [⟨5, 20, 21⟩, ⟨25, 25, 26⟩] := by decide +kernel
theorem wk6 : pushH vW lW [qW] 0 15 = 35 := by decide +kernel
theorem wk7 : pushE vW lW [qW] 0 16 = 9 := by decide +kernel

set_option maxRecDepth 100000 in
set_option maxHeartbeats 4000000 in
theorem works_any (w : World) : Calls Try.prog 9 #[] w fun e w' => e = .returned (.bool true) ∧ Below w.heap.size w w' := by
  obtain ⟨q, hq⟩ : ∃ q, w.heap.size = q := ⟨_, rfl⟩
  obtain ⟨w3, hw3⟩ : ∃ w3, ((w.alloc (.cells #[.int .i64 0, .int .i64 0, .int .i64 9, .int .i64 0, .int .i64 40] 31)).alloc (.cells #[.int .i64 5, .int .i64 0, .int .i64 9, .int .i64 0, .int .i64 0, .int .i64 20, .int .i64 0, .int .i64 30, .int .i64 1, .int .i64 1] 41)).alloc (.cells #[.int .i64 0, .int .i64 0, .int .i64 0, .int .i64 1] 58) = w3 := ⟨_, rfl⟩
  have hV3 : At w3 q 31 #[.int .i64 0, .int .i64 0, .int .i64 9, .int .i64 0, .int .i64 40] := by rw [← hw3]; exact ((At.new_ _ _ _ hq.symm).alloc _).alloc _
  have hQ3 : At w3 (q + 1) 41 #[.int .i64 5, .int .i64 0, .int .i64 9, .int .i64 0, .int .i64 0, .int .i64 20, .int .i64 0, .int .i64 30, .int .i64 1, .int .i64 1] := by rw [← hw3]; exact (At.new_ _ _ _ (by simp [hq])).alloc _
  have hS3 : At w3 (q + 1 + 1) 58 #[.int .i64 0, .int .i64 0, .int .i64 0, .int .i64 1] := by rw [← hw3]; exact At.new_ _ _ _ (by simp [hq])
  have hb3 : Below w.heap.size w w3 := by rw [← hw3]; exact (((Below.refl _ _).alloc (Nat.le_refl _) _).alloc (by simp) _).alloc (by simp; omega) _
  have hL3 : Row w3.heap.size w3 (.slice (some ⟨q + 1 + 1, 0, none⟩) 2 2) lW := row_of (l := lW) hS3 rfl (by decide)
  have hT3 : Rqs w3.heap.size w3 (.slice (some ⟨q + 1, 0, none⟩) 1 1) [qW] := rqs_of (l := [qW]) hQ3 rfl (by decide) (by decide) (by decide)
  have hw3' := Lib.hid hw3
  have hq' := Lib.hid hq
  have hs3 := hS3.inside
  clear hw3 hq hQ3 hS3
  go_enter Try.func9, Try.ntmps9
  go_upto_region 4 with fail
  first | rw [hw3'.out] | (simp only [hq'.out]; rw [hw3'.out])
  try simp only [hq'.out]
  have v0 := hV3.cell 0
  have v1 := hV3.cell 1
  have v2 := hV3.cell 2
  have v3 := hV3.cell 3
  have v4 := hV3.cell 4
  simp at v0 v1 v2 v3 v4
  have hvi := hV3.inside
  have hcl := Latest_all vW _ _ lW [qW] (by decide) lW_nums w3 hL3 hT3
  have hL' := Lib.hid hL3
  have hT' := Lib.hid hT3
  clear hL3 hT3
  go_wp2_with fail
  refine hcl.mono ?_
  clear hcl v0 v1 v2 v3 v4 hvi
  rintro e w4 ⟨⟨ua, rfl, ha0, -⟩, hb'⟩
  rw [wk1]
  rw [wk2] at ha0
  obtain ⟨xa, Na, ca, rfl, hNa, -⟩ := ha0.opened
  obtain rfl : Na = 2 := hNa.out.symm
  have ha := Lib.hid ha0
  clear ha0 hNa
  have hV4 := hV3.keep hb' hV3.inside
  have hL4 := hL'.out.on hb'
  have hT4 := hT'.out.on hb'
  have hb4 := hb3.trans (hb'.mono hb3.size)
  replace ha := Lib.hid ha.out
  clear hb' hV3 hb3 hL' hT'
  have v0 := hV4.cell 0
  have v1 := hV4.cell 1
  have v2 := hV4.cell 2
  have v3 := hV4.cell 3
  have v4 := hV4.cell 4
  simp at v0 v1 v2 v3 v4
  have hvi := hV4.inside
  have hcl := Float_all vW _ _ lW [qW] (by decide) lW_nums w4 hL4 hT4
  have hL' := Lib.hid hL4
  have hT' := Lib.hid hT4
  clear hL4 hT4
  go_wp2_with fail
  refine hcl.mono ?_
  clear hcl v0 v1 v2 v3 v4 hvi
  rintro e w5 ⟨⟨ub, rfl, hf0, -⟩, hb'⟩
  rw [wk1]
  rw [wk3] at hf0
  obtain ⟨xb, Nb, cb, rfl, hNb, -⟩ := hf0.opened
  obtain rfl : Nb = 2 := hNb.out.symm
  have hf := Lib.hid hf0
  clear hf0 hNb
  have hV5 := hV4.keep hb' hV4.inside
  have hL5 := hL'.out.on hb'
  have hT5 := hT'.out.on hb'
  have hb5 := hb4.trans (hb'.mono hb4.size)
  replace ha := Lib.hid (RowB.on ha.out hb')
  clear hb' hV4 hb4 hL' hT'
  have v0 := hV5.cell 0
  have v1 := hV5.cell 1
  have v2 := hV5.cell 2
  have v3 := hV5.cell 3
  have v4 := hV5.cell 4
  simp at v0 v1 v2 v3 v4
  have hvi := hV5.inside
  have hcl := Push_all vW _ _ lW [qW] (by decide) lW_nums 0 15 w5 hL5 hT5
  have hL' := Lib.hid hL5
  have hT' := Lib.hid hT5
  clear hL5 hT5
  go_wp2_with fail
  refine hcl.mono ?_
  clear hcl v0 v1 v2 v3 v4 hvi
  rintro e w6 ⟨⟨uc, rfl, hp0, -⟩, hb'⟩
  rw [wk4, wk6]
  rw [wk5] at hp0
  obtain ⟨xc, Nc, cc, rfl, hNc, -⟩ := hp0.opened
  obtain rfl : Nc = 2 := hNc.symm
  have hp := Lib.hid hp0
  clear hp0 hNc
  have hV6 := hV5.keep hb' hV5.inside
  have hL6 := hL'.out.on hb'
  have hT6 := hT'.out.on hb'
  have hb6 := hb5.trans (hb'.mono hb5.size)
  replace ha := Lib.hid (RowB.on ha.out hb')
  replace hf := Lib.hid (RowB.on hf.out hb')
  clear hb' hV5 hb5 hL' hT'
  have v0 := hV6.cell 0
  have v1 := hV6.cell 1
  have v2 := hV6.cell 2
  have v3 := hV6.cell 3
  have v4 := hV6.cell 4
  simp at v0 v1 v2 v3 v4
  have hvi := hV6.inside
  have hcl := Push_all vW _ _ lW [qW] (by decide) lW_nums 0 16 w6 hL6 hT6
  have hL' := Lib.hid hL6
  have hT' := Lib.hid hT6
  clear hL6 hT6
  go_wp2_with fail
  refine hcl.mono ?_
  clear hcl v0 v1 v2 v3 v4 hvi
  rintro e w7 ⟨⟨ud, rfl, -, -⟩, hb'⟩
  rw [wk7]
  generalize pushH vW lW [qW] 0 16 = hx
  have hV7 := hV6.keep hb' hV6.inside
  have hL7 := hL'.out.on hb'
  have hT7 := hT'.out.on hb'
  have hb7 := hb6.trans (hb'.mono hb6.size)
  replace ha := Lib.hid (RowB.on ha.out hb')
  replace hf := Lib.hid (RowB.on hf.out hb')
  replace hp := Lib.hid (RowB.on hp.out hb')
  clear hb' hV6 hb6 hL' hT'
  go_upto_region 8 with fail
  have hn1 : Below w7.heap.size w7 (w7.alloc (.cells #[.int .i64 20, .int .i64 30] 3)) := (Below.refl _ _).alloc (Nat.le_refl _) _
  have hc1 := ints_any (.slice xa 2 ca) _ [20, 30] [20, 30] (by decide) _ (RowB.on ha.out hn1) (IntsAt.ints (p := w7.heap.size) (ns := [20, 30]) (At.new w7 _ _) (by decide))
  rw [show decide (([20, 30] : List Int) = [20, 30]) = true by decide] at hc1
  have hf' := Lib.hid (RowB.on hf.out hn1)
  have hp' := Lib.hid (RowB.on hp.out hn1)
  have hb8 := Lib.hid (hb7.trans (hn1.mono hb7.size))
  have hb8s := hb8.out.size
  clear hn1 ha hf hp hV7 hL7 hT7 hb7
  go_wp2_with fail
  refine hc1.mono ?_
  clear hc1
  rintro e w9 ⟨rfl, hb'⟩
  have hb9 := hb8.out.trans (hb'.mono hb8s)
  have hf9 := RowB.on hf'.out hb'
  have hp9 := RowB.on hp'.out hb'
  clear hf' hp' hb8 hb8s hb'
  have hn1 : Below w9.heap.size w9 (w9.alloc (.cells #[.int .i64 15, .int .i64 20] 3)) := (Below.refl _ _).alloc (Nat.le_refl _) _
  have hc1 := ints_any (.slice xb 2 cb) _ [15, 20] [15, 20] (by decide) _ (RowB.on hf9 hn1) (IntsAt.ints (p := w9.heap.size) (ns := [15, 20]) (At.new w9 _ _) (by decide))
  rw [show decide (([15, 20] : List Int) = [15, 20]) = true by decide] at hc1
  have hp' := Lib.hid (RowB.on hp9 hn1)
  have hb8 := Lib.hid (hb9.trans (hn1.mono hb9.size))
  have hb8s := hb8.out.size
  clear hn1 hf9 hp9 hb9
  go_wp2_with fail
  refine hc1.mono ?_
  clear hc1
  rintro e wA ⟨rfl, hb'⟩
  have hbA := Lib.hid (hb8.out.trans (hb'.mono hb8s))
  have hpA : Tms wA.heap.size wA (.slice xc 2 cc) [⟨5, 20, 21⟩, ⟨25, 25, 26⟩] := RowB.on hp'.out hb'
  obtain ⟨g, o, rfl, hg, -, c1, -⟩ := Tms.at hpA (k := 0) rfl
  obtain ⟨g', o', e', -, -, d1, -⟩ := Tms.at hpA (k := 1) rfl
  cases e'
  simp at c1 d1
  clear hpA hp' hb8 hb8s hb'
  go_wp2
  go_ret
  exact ⟨rfl, hbA.out⟩

end Go.Proofs.Ytfoflfeaegfnnaa.Slack

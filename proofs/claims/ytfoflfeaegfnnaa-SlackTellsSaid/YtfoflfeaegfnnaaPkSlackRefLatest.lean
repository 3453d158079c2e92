import Derived.Test.YtfoflfeaegfnnaaPkSlackRefFrom
import Derived.Test.YtfoflfeaegfnnaaPkSlackFloatMath

/-
  The contract of the document's Latest: by trying.
-/
namespace Go.Proofs.Ytfoflfeaegfnnaa.Slack
open Go.RowKit Go.Sort Go.Proofs.Ytfoflfeaegfnnaa.Mem Go.Proofs.Ytfoflfeaegfnnaa.Route Go.Proofs.Ytfoflfeaegfnnaa.When Go.Proofs.Ytfoflfeaegfnnaa.Tail
set_option linter.unusedVariables false

theorem info_intR : (Try.prog.info? 3).map (fun i => (i.zero, i.size, i.bytes)) = some (some (.int .i64 0), 1, 8) := by kernel_rfl
/-- How far a stop may be pushed. -/
theorem search_facts {v : Vh} {l : List (Int × Int)} {t : List Rq} (h : errT v l t = 0) {i : Nat} (hi : i < l.length) :
    ∃ B F, (∃ x, (timesL v l t)[i]? = some x ∧ x.be = B) ∧ (latestV v l t)[i]? = some (B + F) ∧ 0 ≤ B ∧ B ≤ 1048576 ∧ 0 ≤ F ∧ F ≤ 1048576 ∧ ∀ by_, fromE v l t i by_ = if by_ ≤ F then 0 else 9 := by
  obtain ⟨A, hA, hAb, -⟩ := rise_facts h hi
  have hfr := fun by_ => from_float h hi by_ hA
  obtain ⟨BE, hBE⟩ : ∃ BE, beB (eI v l t i) (visN v t l i) 0 = BE := ⟨_, rfl⟩
  have hlen1 : (rowB (sp0 v) (plainP ((visL t l).take i))).length = i := by
    rw [rowB_length]
    have := (split_vis (v := v) (t := t) hi).2
    simpa [plainP] using this
  have hTi : (timesL v l t)[i]? = some (tmB (eI v l t i) (visN v t l i) 0) := by
    rw [times_eq h hi, List.getElem?_append_right (by omega), hlen1, Nat.sub_self]
    rfl
  have hBb := time_bd h _ (List.mem_of_getElem? hTi)
  have hb1 : (tmB (eI v l t i) (visN v t l i) 0).be = BE := hBE
  rw [hb1] at hBb
  rw [hBE] at hfr
  have h00 : BE ≤ A := by
    have h1 := okT_fromB (errT_zero.1 h).1 (i := i) (by_ := 0) (.inl rfl)
    rw [(errT_zero.1 h).2] at h1
    have := (hfr 0).1 h1
    omega
  refine ⟨BE, A - BE, ⟨_, hTi, hb1⟩, by rw [hA]; congr 1; omega, hBb.1, hBb.2, by omega, by omega, fun b => ?_⟩
  rw [fromE_ok (errT_zero.1 h).1]
  by_cases hb : BE + b ≤ A
  · rw [if_pos ((hfr b).2 hb), if_pos (by omega)]
  · rw [if_neg (fun e => hb ((hfr b).1 e)), if_neg (by omega)]
set_option maxRecDepth 100000 in
set_option maxHeartbeats 4000000 in
theorem RefLatest_all (v : Vh) (vl vt : Value) (l : List (Int × Int)) (t : List Rq) (hl : l.length ≤ 1000000) (hnum : Nums l) (w : World) (hL : Row w.heap.size w vl l) (hT : Rqs w.heap.size w vt t) :
    Calls Try.prog 17 #[.agg #[.int .i64 v.hx, .int .i64 v.hy, .int .i64 v.cp, .int .i64 v.st, .int .i64 v.en], vl, vt] w fun e w' =>
      (∃ u, e = .returned (.tuple #[u, .int .i64 (errT v l t)]) ∧ Ints w'.heap.size w' u (latestV v l t)) ∧ Below w.heap.size w w' := by
  obtain ⟨i0, hi, hz0, hz1, hz2⟩ := info_parts info_intR
  obtain ⟨w1, hw1⟩ : ∃ w1, w.alloc (.cells #[.int .i64 v.hx, .int .i64 v.hy, .int .i64 v.cp, .int .i64 v.st, .int .i64 v.en] 31) = w1 := ⟨_, rfl⟩
  have hP1 := At.new w 31 #[.int .i64 v.hx, .int .i64 v.hy, .int .i64 v.cp, .int .i64 v.st, .int .i64 v.en]
  rw [hw1] at hP1
  have hb0 : Below w.heap.size w w1 := by rw [← hw1]; exact (Below.refl _ _).alloc (Nat.le_refl _) _
  have hFr := fun (i by_ : Int) (hb : 0 ≤ by_ ∧ by_ ≤ 1048576) (W : World) (hb1 : Below w.heap.size w W) => From_all v vl vt l t hl hnum i by_ hb W (hL.on hb1) (hT.on hb1)
  have hc := hFr (-1) 0 (by omega) w1 hb0
  obtain ⟨xl, Nl, capl, rfl, hNl, hl0, hlc1, hlc2⟩ := hL.opened
  obtain ⟨xt, Nt, capt, rfl, hNt0, htc1, htc2, ht0⟩ := hT.opened
  unfold maxLen at hlc2 htc2
  have hNl1 : Nl ≤ 1000000 := by rw [hNl.out] at hl; exact hl
  have hFr' := Lib.hid hFr
  rw [fromE_no (.inl rfl), (from_no (.inl rfl)).1, (from_no (.inl rfl)).2] at hc
  obtain ⟨E, hE⟩ : ∃ E, errT v l t = E := ⟨_, rfl⟩
  rw [hE] at hc ⊢
  have hE' := Lib.hid hE
  have p0 := hP1.cell 0
  have p1 := hP1.cell 1
  have p2 := hP1.cell 2
  have p3 := hP1.cell 3
  have p4 := hP1.cell 4
  simp at p0 p1 p2 p3 p4
  have hw1' := Lib.hid hw1
  have hPs := hP1.inside
  clear hL hT hNt0 ht0 hl hnum hE hFr hl0 hw1
  go_enter Try.func17, Try.ntmps17
  go_upto_region 1 with fail
  rw [hw1'.out]
  go_wp2_with fail
  refine hc.mono ?_
  clear hc p0 p1 p2 p3 p4
  rintro e w2 ⟨⟨u, rfl, hu, _⟩, hb1⟩
  have hP2 := Lib.hid (hP1.keep hb1 hP1.inside)
  have hB := Lib.hid (hb0.trans (hb1.mono hb0.size))
  obtain ⟨xu, Nu, capu, rfl, hNu, hcu1, hcu2, hu0⟩ := hu.opened
  have hNu' := Lib.hid hNu
  have hu' := Lib.hid hu
  have hP2s : w.heap.size < w2.heap.size := hP2.out.inside
  unfold maxLen at hcu2
  clear hb1 hb0 hP1 hu hu0 hNu
  cases he0 : (E == 0)
  · have he1 : (E != 0) = true := by simpa using he0
    have hw : Hid (latestV v l t = []) := Lib.hid (by
      unfold latestV
      rw [if_neg (by rw [hE'.out]; simpa using he0)])
    go_wp2
    refine bodyPost_ret (v := .tuple #[.slice none 0 0, .int .i64 E]) (by simp [results, Try.results17, go_sem]) rfl ?_
    exact ⟨⟨_, rfl, by rw [hw.out]; exact RowB.nil _ _ _⟩, hB.out⟩
  have he1 : (E != 0) = false := by simpa using he0
  obtain rfl : E = 0 := by simpa using he0
  have hlen := Lib.hid (latest_len hE'.out)
  go_wp2
  go_loopw [11, 12] (fun ov kk wr => ∃ (k : Nat) (x : Option Addr) (cap : Nat), kk = .int .i64 k ∧ k ≤ Nl ∧ ov = .slice x k cap ∧ wr.ownsRow w2.heap.size 3 1 (.slice x k cap) k (flatI ((latestV v l t).take k)) ∧ Below w2.heap.size w2 wr) (fun _ kk _ => Nl - (intOf kk).toNat)
  case atStart => exact ⟨0, none, 0, rfl, Nat.zero_le _, rfl, World.ownsRow_nil _ _ _ _, Below.refl _ _⟩
  case round =>
    obtain ⟨k, x, cap, rfl, hk, rfl, hown, hbw⟩ := hrel
    have hbw' := Lib.hid hbw
    have hown' := Lib.hid hown
    have hsw : w2.heap.size ≤ wr.heap.size := hbw.size
    clear hbw hown
    by_cases hlt : k < Nl
    · have hkI : ((k : Int) < (Nl : Int)) := by omega
      obtain ⟨B, F, ⟨xx, hx1, hx2⟩, hlat, hB1, hB2, hF1, hF2, hFE⟩ := search_facts hE'.out (i := k) (by rw [hNl.out]; exact hlt)
      have hFE' := Lib.hid hFE
      have hlat' := Lib.hid hlat
      have hkN : Hid (k < Nu) := Lib.hid (by rw [← hNu'.out]; exact (List.getElem?_eq_some_iff.1 hx1).1)
      have hx1' := Lib.hid hx1
      have hbW := Lib.hid (hB.out.trans (hbw'.out.mono hB.out.size))
      have hPw := Lib.hid (hP2.out.keep hbw'.out hP2.out.inside)
      clear hFE hlat hx1
      go_upto_region 8 with fail
      go_wp2
      obtain ⟨wo, hwo⟩ : ∃ wo, wo = wr := ⟨_, rfl⟩
      subst hwo
      go_loopw [13, 14] (fun lo hh wq => ∃ a b : Int, lo = .int .i64 a ∧ hh = .int .i64 b ∧ 0 ≤ a ∧ a ≤ F ∧ F < b ∧ b ≤ 1048577 ∧ Below wo.heap.size wo wq) (fun lo hh _ => (intOf hh - intOf lo).toNat)
      case atStart => exact ⟨0, 1048577, rfl, rfl, by omega, by omega, by omega, by omega, Below.refl _ _⟩
      case round =>
        obtain ⟨a, b, rfl, rfl, ha1, ha2, hb1, hb2, hbq⟩ := hrel
        by_cases hab : b - a > 1
        · have hab' : (1 : Int) < b - a := by omega
          obtain ⟨M, hM⟩ : ∃ M, (a + b).tdiv 2 = M := ⟨_, rfl⟩
          have hMb : a < M ∧ M < b := by rw [← hM, Int.tdiv_eq_ediv_of_nonneg (by omega)]; omega
          obtain ⟨hMb1, hMb2⟩ := hMb
          have hq := hPw.out.keep hbq hPw.out.inside
          have p0 := hq.cell 0
          have p1 := hq.cell 1
          have p2 := hq.cell 2
          have p3 := hq.cell 3
          have p4 := hq.cell 4
          simp at p0 p1 p2 p3 p4
          have hqs := hq.inside
          have hc := hFr'.out k M (by omega) wr (hbW.out.trans (hbq.mono hbW.out.size))
          rw [hFE'.out] at hc
          obtain ⟨f, hf⟩ : ∃ f : Int, (if M ≤ F then (0 : Int) else 9) = f := ⟨_, rfl⟩
          rw [hf] at hc
          have hf' := Lib.hid hf
          obtain ⟨H, hH⟩ : ∃ H, fromH v l t k M = H := ⟨_, rfl⟩
          rw [hH] at hc
          have hbq' := Lib.hid hbq
          clear hq hf hH hab hbq
          go_wp2_with fail
          refine hc.mono ?_
          clear hc p0 p1 p2 p3 p4
          rintro e w5 ⟨⟨u5, rfl, -, -⟩, hb5⟩
          have hb6 := Lib.hid (hbq'.out.trans (hb5.mono hbq'.out.size))
          clear hb5 hM
          by_cases hMF : M ≤ F
          · obtain rfl : f = 0 := by rw [← hf'.out, if_pos hMF]
            go_wp2
            go_roundw
            case rel => exact ⟨M, b, rfl, rfl, by omega, by omega, by omega, by omega, hb6.out⟩
            case measure => simp [intOf]; omega
          · obtain rfl : f = 9 := by rw [← hf'.out, if_neg hMF]
            go_wp2
            go_roundw
            case rel => exact ⟨a, M, rfl, rfl, by omega, by omega, by omega, by omega, hb6.out⟩
            case measure => simp [intOf]; omega
        · have haF : a = F := by omega
          subst haF
          obtain ⟨gu, ou, rfl, hgu, -, d1, -⟩ := Tms.at hu'.out hx1'.out
          rw [hx2] at d1
          have hb7 := Lib.hid (hbw'.out.trans (hbq.mono hbw'.out.size))
          have d1 := (hb7.out.cell (p := ⟨gu, ou + k * 3 + 1, none⟩) hgu).trans d1
          have hown2 := Lib.hid (owns_below hown'.out hbq)
          have hkNI : ((k : Int) < (Nu : Int)) := by have := hkN.out; omega
          have ht : Hid (flatI ((latestV v l t).take (k + 1)) = flatI ((latestV v l t).take k) ++ [.int .i64 (B + a)]) := Lib.hid (by
            rw [take_succ_at hlat'.out]
            simp [flatI, inV])
          have hws : w2.heap.size ≤ wr.heap.size := hb7.out.size
          have hab' : ¬ ((1 : Int) < b - a) := by omega
          clear hbq hx2 hab
          go_wp2_with (at_builtin; refine wpList_append_own _ rfl _ _ 50 rfl w2.heap.size 3 i0 (.int .i64 0) 1 8 Try.underlying50 hi hz0 hz1 hz2 rfl (by decide) _ _ _ rfl (hown2.out.alloc _) ⟨wr.heap.size, 0, none⟩ 1 1 [.int .i64 (B + a)] rfl rfl (World.news_of_block (cs := #[.int .i64 (B + a)]) (t := 3) (fr := (0, 0)) (by simpa using heap_alloc_new wr _)) (by simp [Value.oneCell']) (by unfold maxLen; omega) (by omega) (by simp; omega) ?_; intro v7 w10 hown7 hgrow7 hnil7; obtain ⟨x7, c7, rfl, _, _⟩ := owns_slice hown7)
          have hB7 := Lib.hid ((hb7.out.alloc hb7.out.size (.cells #[.int .i64 (B + a)] 3)).grown hgrow7 (by simp; omega) (fun r e => by have := owns_row hown2.out _ e; omega))
          have hown8 := Lib.hid hown7
          clear hown7 hgrow7 hnil7 d1
          go_roundw
          case rel => exact ⟨k + 1, x7, c7, by go_num, by omega, rfl, by rw [ht.out]; exact hown8.out, hB7.out⟩
          case measure => simp [intOf]; omega
    · obtain rfl : k = Nl := by omega
      have hrow := Lib.hid (Ints.of_owns (B := wr.heap.size) hown'.out (by rw [List.length_take, hlen.out, hNl.out]; omega) (Nat.le_refl _))
      have hBw := Lib.hid (hB.out.trans (hbw'.out.mono hB.out.size))
      have hall : Hid ((latestV v l t).take k = latestV v l t) := Lib.hid (List.take_of_length_le (by rw [hlen.out, hNl.out]; exact Nat.le_refl _))
      go_wp2
      refine bodyPost_ret (v := .tuple #[.slice x k cap, .int .i64 0]) (by simp [results, Try.results17, go_sem]) rfl ?_
      exact ⟨⟨_, rfl, by rw [← hall.out]; exact hrow.out⟩, hBw.out⟩

end Go.Proofs.Ytfoflfeaegfnnaa.Slack

import Derived.Test.YtfoflfeaegfnnaaPkSlackFloat
import Derived.Test.YtfoflfeaegfnnaaPkRouteRefWith

/-
  The contract of package slack's Float.
-/
namespace Go.Proofs.Ytfoflfeaegfnnaa.Slack
open Go.RowKit Go.Sort Go.Proofs.Ytfoflfeaegfnnaa.Mem Go.Proofs.Ytfoflfeaegfnnaa.Route Go.Proofs.Ytfoflfeaegfnnaa.When Go.Proofs.Ytfoflfeaegfnnaa.Tail
set_option linter.unusedVariables false

/-- The latest Begins, the first k less what they begin at. -/
def mixF (ns : List Int) (ts : List Tm) (k : Nat) : List Int := ns.mapIdx fun j n => if j < k then n - ((ts[j]?).map (·.be)).getD 0 else n
theorem mixF_length (ns : List Int) (ts : List Tm) (k : Nat) : (mixF ns ts k).length = ns.length := by simp [mixF]
theorem mixF_zero (ns : List Int) (ts : List Tm) : mixF ns ts 0 = ns := by
  apply List.ext_getElem?
  intro j
  simp [mixF]
theorem mixF_get {ns : List Int} {ts : List Tm} {k : Nat} {n : Int} (h : ns[k]? = some n) : (mixF ns ts k)[k]? = some n := by simp [mixF, h]
theorem mixF_set {ns : List Int} {ts : List Tm} {k : Nat} {n : Int} {x : Tm} (h : ns[k]? = some n) (hx : ts[k]? = some x) : (mixF ns ts k).set k (n - x.be) = mixF ns ts (k + 1) := by
  apply List.ext_getElem?
  intro j
  rw [List.getElem?_set]
  by_cases hj : k = j
  · subst hj
    have hk := (List.getElem?_eq_some_iff.1 h).1
    rw [if_pos rfl, if_pos (by rw [mixF_length]; exact hk)]
    simp [mixF, h, hx]
  · rw [if_neg hj]
    simp only [mixF, List.getElem?_mapIdx]
    have : (j < k) ↔ (j < k + 1) := by omega
    simp only [this]
theorem mixF_all {ns : List Int} {ts : List Tm} (h : ns.length = ts.length) : mixF ns ts ns.length = floatL ns ts := by
  apply List.ext_getElem?
  intro j
  simp only [mixF, floatL, List.getElem?_mapIdx, List.getElem?_zipWith]
  cases hn : ns[j]? with
  | none => simp
  | some n =>
    have hj := (List.getElem?_eq_some_iff.1 hn).1
    have ht : ts[j]? = some (ts[j]'(by omega)) := List.getElem?_eq_getElem _
    simp [ht, hj]

theorem time_bd {v : Vh} {l : List (Int × Int)} {t : List Rq} (h : errT v l t = 0) : ∀ x ∈ timesL v l t, 0 ≤ x.be ∧ x.be ≤ 1048576 := by
  unfold timesL
  rw [if_pos h]
  intro x hx
  unfold rowT tmsL at hx
  obtain ⟨y, hy, rfl⟩ := List.mem_map.1 hx
  exact wait_bd _ _ _

set_option maxRecDepth 100000 in
set_option maxHeartbeats 4000000 in
theorem Float_new (v : Vh) (vl vt : Value) (l : List (Int × Int)) (t : List Rq) (hl : l.length ≤ 1000000) (hnum : Nums l) (w : World) (hL : Row w.heap.size w vl l) (hT : Rqs w.heap.size w vt t) :
    Calls Try.prog 11 #[.agg #[.int .i64 v.hx, .int .i64 v.hy, .int .i64 v.cp, .int .i64 v.st, .int .i64 v.en], vl, vt] w fun e w' =>
      (∃ u, e = .returned (.tuple #[u, .int .i64 (errT v l t)]) ∧ Ints w'.heap.size w' u (floatV v l t) ∧ (errT v l t ≠ 0 → u = .slice none 0 0) ∧ NewB w.heap.size u) ∧ Below w.heap.size w w' := by
  obtain ⟨w1, hw1⟩ : ∃ w1, w.alloc (.cells #[.int .i64 v.hx, .int .i64 v.hy, .int .i64 v.cp, .int .i64 v.st, .int .i64 v.en] 31) = w1 := ⟨_, rfl⟩
  have hP1 := At.new w 31 #[.int .i64 v.hx, .int .i64 v.hy, .int .i64 v.cp, .int .i64 v.st, .int .i64 v.en]
  rw [hw1] at hP1
  have hb0 : Below w.heap.size w w1 := by rw [← hw1]; exact (Below.refl _ _).alloc (Nat.le_refl _) _
  have hc := Times_all v vl vt l t hl hnum w1 (hL.on hb0) (hT.on hb0)
  have hLt := fun (h : errT v l t = 0) => latest_any v vl vt l t hl (late_facts h).1 (late_facts h).2.1 (late_facts h).2.2
  have hl' := Lib.hid hl
  obtain ⟨xl, Nl, capl, rfl, hNl, hl0, hlc1, hlc2⟩ := hL.opened
  obtain ⟨xt, Nt, capt, rfl, hNt0, htc1, htc2, ht0⟩ := hT.opened
  have hL' := Lib.hid hL
  have hT' := Lib.hid hT
  have hLt' := Lib.hid hLt
  obtain ⟨E, hE⟩ : ∃ E, errT v l t = E := ⟨_, rfl⟩
  rw [hE] at hc ⊢
  have hE' := Lib.hid hE
  have p0 := hP1.cell 0
  have p1 := hP1.cell 1
  have p2 := hP1.cell 2
  have p3 := hP1.cell 3
  have p4 := hP1.cell 4
  simp at p0 p1 p2 p3 p4
  have hw1' := Lib.hid hw1
  have hPs := hP1.inside
  clear hL hT hNt0 ht0 hl hnum hE hLt hl0 hNl hw1
  go_enter Try.func11, Try.ntmps11
  go_upto_region 1 with fail
  rw [hw1'.out]
  go_wp2_with fail
  refine hc.mono ?_
  clear hc p0 p1 p2 p3 p4
  rintro e w2 ⟨⟨u, rfl, hu, _⟩, hb1⟩
  have hP2 := hP1.keep hb1 hP1.inside
  have hB := hb0.trans (hb1.mono hb0.size)
  obtain ⟨xu, Nu, capu, rfl, hNu, hu1, hu2, _⟩ := hu.opened
  unfold maxLen at hu2
  have hu' := Lib.hid hu
  have hNu' := Lib.hid hNu
  clear hb1 hb0 hP1 hu hNu
  cases he0 : (E == 0)
  · have he1 : (E != 0) = true := by simpa using he0
    have hw : Hid (floatV v l t = []) := Lib.hid (by
      unfold floatV latestV
      rw [if_neg (by rw [hE'.out]; simpa using he0)]
      rfl)
    go_wp2
    refine bodyPost_ret (v := .tuple #[.slice none 0 0, .int .i64 E]) (by simp [results, Try.results11, go_sem]) rfl ?_
    exact ⟨⟨_, rfl, by rw [hw.out]; exact RowB.nil _ _ _, fun _ => rfl, NewB.nil _⟩, hB⟩
  · have he1 : (E != 0) = false := by simpa using he0
    obtain rfl : E = 0 := by simpa using he0
    have hlat := hLt'.out hE'.out w2 (hL'.out.on hB) (hT'.out.on hB)
    have p0 := hP2.cell 0
    have p1 := hP2.cell 1
    have p2 := hP2.cell 2
    have p3 := hP2.cell 3
    have p4 := hP2.cell 4
    simp at p0 p1 p2 p3 p4
    have hPs2 := hP2.inside
    clear hP2
    go_wp2_with fail
    refine hlat.mono ?_
    clear hlat p0 p1 p2 p3 p4
    rintro e w3 ⟨⟨p, hp, rfl, hA⟩, hb3⟩
    obtain ⟨ns, hns⟩ : ∃ ns, latL (homeV v) v.en (visL t l) = ns := ⟨_, rfl⟩
    obtain ⟨ts, hts⟩ : ∃ ts, timesL v l t = ts := ⟨_, rfl⟩
    rw [hns] at hA
    rw [hts] at hu' hNu'
    have hlen : l.length = Nu := by
      rw [← hNu'.out, ← hts]
      unfold timesL
      rw [if_pos hE'.out, rowT_length]
    have hnl : ns.length = Nu := by rw [← hns, latL_length]; simp only [visL, List.length_map]; exact hlen
    have hv : Hid (floatV v l t = mixF ns ts Nu) := Lib.hid (by
      unfold floatV latestV
      rw [if_pos hE'.out, hns, hts, ← hnl, mixF_all (hnl.trans hNu'.out.symm)])
    have hnb : Hid (∀ x ∈ ns, 0 ≤ x ∧ x ≤ 1048576) := Lib.hid (by
      intro x hx
      obtain ⟨k, hk, rfl⟩ := List.getElem_of_mem hx
      have hkl : k < (visL t l).length := by rw [← hns, latL_length] at hk; exact hk
      have h1 := lat_bd hE'.out k
      rw [List.drop_eq_getElem_cons hkl, latL, hdL_head] at h1
      have h2 := latL_get (homeV v) v.en (List.getElem?_eq_getElem hkl)
      rw [hns, List.getElem?_eq_getElem hk] at h2
      rw [Option.some.inj h2]
      exact h1)
    have htb : Hid (∀ x ∈ ts, 0 ≤ x.be ∧ x.be ≤ 1048576) := Lib.hid (by rw [← hts]; exact time_bd hE'.out)
    have hI0 : IntsAt w3 p (mixF ns ts 0) := by rw [mixF_zero]; exact hA
    have hB3 := hb3
    have hNu1 : Nu ≤ 1000000 := by rw [← hlen]; exact hl'.out
    have hpw : Hid (w.heap.size ≤ p) := Lib.hid (Nat.le_trans hB.size hp)
    have hB' := Lib.hid hB
    have hlen' := Lib.hid hlen
    have hnl' := Lib.hid hnl
    have hu3 := hu'.out
    simp only [hlen]
    clear hns hts hA hb3 hlen hnl hLt' hl' hL' hT' hu'
    go_wp2
    go_loopw [32] (fun i wr => ∃ k : Nat, i = .int .i64 k ∧ k ≤ Nu ∧ IntsAt wr p (mixF ns ts k) ∧ Below w2.heap.size w2 wr)
      (fun i _ => Nu - (intOf i).toNat)
    case atStart => exact ⟨0, rfl, Nat.zero_le _, hI0, hB3⟩
    case round =>
      obtain ⟨k, rfl, hk, hI, hb⟩ := hrel
      clear hI0 hB3
      by_cases hkN : k < Nu
      · have hkI : ((k : Int) < (Nu : Int)) := by omega
        obtain ⟨x, hx⟩ : ∃ x, ts[k]? = some x := ⟨ts[k]'(by rw [hNu'.out]; exact hkN), List.getElem?_eq_getElem _⟩
        obtain ⟨n, hn⟩ : ∃ n, ns[k]? = some n := ⟨ns[k]'(by rw [hnl'.out]; exact hkN), List.getElem?_eq_getElem _⟩
        have hbx := htb.out x (List.mem_of_getElem? hx)
        have hbn := hnb.out n (List.mem_of_getElem? hn)
        obtain ⟨g, o, rfl, hg, c0, c1, c2⟩ := Tms.at (hu3.keep hb (Nat.le_refl _)) hx
        obtain ⟨m, hm⟩ : ∃ m, wr.heap.size = m := ⟨_, rfl⟩
        obtain ⟨w5, hw5⟩ : ∃ w5, wr.alloc (.cells #[.int .i64 x.ar, .int .i64 x.be, .int .i64 x.lv] 55) = w5 := ⟨_, rfl⟩
        have hb5 : Below wr.heap.size wr w5 := by rw [← hw5]; exact (Below.refl _ _).alloc (Nat.le_refl _) _
        have hX5 : At w5 m 55 #[.int .i64 x.ar, .int .i64 x.be, .int .i64 x.lv] := by rw [← hw5]; exact At.new_ _ _ _ hm.symm
        have hI5 : IntsAt w5 p (mixF ns ts k) := hI.keep hb5 hI.inside
        have hB5 := hb.trans (hb5.mono hb.size)
        have hmp : p < m := by rw [← hm]; exact hI.inside
        have x1 := hX5.cell 1
        simp at x1
        have y0 := hI5.get (mixF_get (ts := ts) hn)
        have hw5' := Lib.hid hw5
        have hm' := Lib.hid hm
        have hn' := Lib.hid hn
        have hx' := Lib.hid hx
        have hI5' := Lib.hid hI5
        have hB5' := Lib.hid hB5
        have hp5 : p < w5.heap.size := hI5.inside
        clear hw5 hm hn hx hI hb hb5 hX5 hI5 hB5
        go_upto_region 8 with fail
        simp only [hm'.out]
        rw [hw5'.out]
        have kx1 := cell_regrown x1
        have ky0 := cell_regrown y0
        refine wp_region_below_tail 7 (by kernel_rfl) (by kernel_rfl) (by kernel_rfl) ?_
        simp only [List.take_succ_cons, List.take_zero, List.drop_succ_cons, List.drop_zero]
        repeat (go_big_quiet_step (fail))
        refine wpQuiet_nil ?_
        intro _ hw'
        obtain ⟨⟨dq, osq⟩, hw''⟩ := hw'
        subst hw''
        have hb8 := below_regrown w5 dq osq
        have hI8 : IntsAt (grow (redrawn w5 dq) osq) p (mixF ns ts k) := hI5'.out.keep hb8 hI5'.out.inside
        have hB8 := hB5'.out.trans (hb8.mono hB5'.out.size)
        clear kx1 ky0 x1 y0 hb8 hI5' hB5' c0 c1 c2
        generalize grow (redrawn w5 dq) osq = w8 at *
        have y0 := hI8.get (mixF_get (ts := ts) hn'.out)
        have yf := hI8.free k
        have hp8 : p < w8.heap.size := hI8.inside
        have hfin := Lib.hid (hI8.set k (n - x.be))
        have hfB := Lib.hid (hB8.setCell (p := ⟨p, k, none⟩) (by exact hp) (.int .i64 (n - x.be)))
        clear hI8 hB8
        go_wp2
        go_roundw
        case rel =>
          refine ⟨k + 1, by go_num, hkN, ?_, hfB.out⟩
          have h9 := hfin.out
          rw [mixF_set hn'.out hx'.out] at h9
          exact h9
        case measure => simp [intOf]; omega
      · obtain rfl : k = Nu := by omega
        have hI' := Lib.hid hI
        have hb' := Lib.hid (hB'.out.trans (hb.mono hB'.out.size))
        clear hI hb
        go_wp2
        refine bodyPost_ret (v := .tuple #[.slice (some ⟨p, 0, none⟩) k k, .int .i64 0]) (by simp [results, Try.results11, go_sem]) rfl ?_
        refine ⟨⟨_, rfl, ?_, fun h => absurd rfl h, fun r e => by cases e; exact hpw.out⟩, hb'.out⟩
        rw [hv.out]
        have hi := IntsAt.ints (p := p) hI'.out (by rw [mixF_length, hnl'.out]; unfold maxLen; omega)
        rw [mixF_length, hnl'.out] at hi
        exact hi

theorem Float_all (v : Vh) (vl vt : Value) (l : List (Int × Int)) (t : List Rq) (hl : l.length ≤ 1000000) (hnum : Nums l) (w : World) (hL : Row w.heap.size w vl l) (hT : Rqs w.heap.size w vt t) :
    Calls Try.prog 11 #[.agg #[.int .i64 v.hx, .int .i64 v.hy, .int .i64 v.cp, .int .i64 v.st, .int .i64 v.en], vl, vt] w fun e w' =>
      (∃ u, e = .returned (.tuple #[u, .int .i64 (errT v l t)]) ∧ Ints w'.heap.size w' u (floatV v l t) ∧ (errT v l t ≠ 0 → u = .slice none 0 0)) ∧ Below w.heap.size w w' :=
  (Float_new v vl vt l t hl hnum w hL hT).mono fun e w' ⟨⟨u, h1, h2, h3, _⟩, h4⟩ => ⟨⟨u, h1, h2, h3⟩, h4⟩

end Go.Proofs.Ytfoflfeaegfnnaa.Slack

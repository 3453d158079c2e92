import Derived.Test.YtlbghdiebjldjaaGreatDoorPkFeasCheck
import Derived.Test.YtlbghdiebjldjaaGreatDoorPkPlanWorks

namespace Go.Proofs.YtlbghdiebjldjaaGreatDoor.Plan
open Go.RowKit Go.Sort Go.Proofs.YtlbghdiebjldjaaGreatDoor.Mem Go.Proofs.YtlbghdiebjldjaaGreatDoor.Route Go.Proofs.YtlbghdiebjldjaaGreatDoor.When Go.Proofs.YtlbghdiebjldjaaGreatDoor.Load Go.Proofs.YtlbghdiebjldjaaGreatDoor.Ins Go.Proofs.YtlbghdiebjldjaaGreatDoor.Feas
set_option linter.unusedVariables false
theorem check_nil {w : World} {u : Value} {f : Int × Int × Int} (h : Feas.ErrAt w u f) (hf : f.1 = 0) : u = .nilIface := by
 rcases h with ⟨-, e⟩ | ⟨h, -⟩
 · exact e
 · exact absurd hf h
theorem own_on {W W' : World} {b s n : Nat} {e : TypeId} {v : Value} {xs : List Value} (h : W.ownsRow b e s v n xs) (hb : Below W.heap.size W W') : W'.ownsRow b e s v n xs := (Chg.of_below (D := fun _ => False) hb).owns h (fun _ _ h => h)
theorem RwsO.at0 {M N : Nat} {W : World} {u : Value} {us : List Value} {ls : List (List (Int × Int))} (h : RwsO M W u us ls) (hN : ls.length = N) (h0 : 0 < N) : ∃ g c, u = .slice (some ⟨g, 0, none⟩) N c ∧ N ≤ c ∧ c ≤ maxLen := by
 obtain ⟨x, c, rfl, h1, h2⟩ := owns_slice h.1
 obtain ⟨g, o, u1, e, -⟩ := Rws.at (k := 0) h.rws (List.getElem?_eq_getElem (by omega))
 obtain ⟨hl, h3 | ⟨g', cap', cur, e2, -⟩⟩ := h.1
 · obtain ⟨h3, -⟩ := h3
   rw [e] at h3
   cases h3
 · cases e2
   exact ⟨g', c, by rw [hN], by rw [← hN]; exact h2, h1⟩
set_option maxRecDepth 100000 in
set_option maxHeartbeats 16000000 in
theorem holds_any {D G : Nat → Prop} {p : Nat} {S : St} (vf vt : Value) (w : World) (h : PlanAt D G w p S) (ho : Ok S) (hV : Vhs w.heap.size w vf S.vs) (hT : Rqs w.heap.size w vt S.t) :
 Calls Tryz.prog 21 #[.pointer (some ⟨p, 0, none⟩), vf, vt] w fun e w' => e = .returned (.bool true) ∧ Below w.heap.size w w' := by
 obtain ⟨i0, hi, hz0, hz1, hz2⟩ := info_parts info_int8
 obtain ⟨xt, Nt, ct, rfl, hNt0, htc1, htc2, -⟩ := hT.opened
 obtain ⟨xf, Nf, cf, rfl, hNf0, hfc1, hfc2, -⟩ := hV.opened
 unfold maxLen at htc2 hfc2
 have hN0 : S.rows.length = Nf := by rw [ho.len]; exact hNf0
 have hNf4 : 1 ≤ Nf ∧ Nf ≤ 4 := by rw [← hNf0]; exact ho.cnt
 have hNt9 : Nt ≤ 1000 := by rw [← hNt0]; exact ho.tl
 have hR := Routes_any w h ho
 have h' := Lib.hid h
 have ho' := Lib.hid ho
 have hV' := Lib.hid hV
 have hT' := Lib.hid hT
 have hNf := Lib.hid hNf0
 have hN := Lib.hid hN0
 have hNt := Lib.hid hNt0
 clear h ho hV hT hNt0 hNf0 hN0
 go_enter Tryz.func21, Tryz.ntmps21
 go_wp2_with fail
 refine hR.mono ?_
 clear hR
 rintro e w1 ⟨⟨u, rfl, us, hu⟩, hb1⟩
 obtain ⟨gr, cu0, rfl, hcu1, hcu2⟩ := hu.at0 hN.out (by omega)
 unfold maxLen at hcu2
 have hrw := Lib.hid hu.rws
 have hA1 := Lib.hid (h'.out.on hb1)
 have hV1 := Lib.hid (hV'.out.on hb1)
 have hT1 := Lib.hid (hT'.out.on hb1)
 have hB1 := Lib.hid hb1
 have hs1 := hb1.size
 clear hu hb1 h' hV' hT'
 have hnn : ((Nf : Int) != (Nf : Int)) = false := by simp
 go_wp2
 go_loopw [9, 10] (fun u i wr => ∃ k : Nat, k ≤ Nt ∧ i = .int .i64 k ∧ wr.ownsRow w1.heap.size 3 1 u (allK S k).length (flatI (allK S k)) ∧ Below w1.heap.size w1 wr)
  (fun _ c _ => Nt - (intOf c).toNat)
 case atStart => exact ⟨0, Nat.zero_le _, rfl, by simpa [flatI, allK] using World.ownsRow_nil _ _ _ _, Below.refl _ _⟩
 case round =>
  obtain ⟨k, hk, rfl, hown, hbw⟩ := hrel
  by_cases hlt : k < Nt
  · have hkI : (k : Int) < (Nt : Int) := by omega
    have hkN := Lib.hid hlt
    have hyes := Lib.hid (fun h => allK_yes (S := S) (k := k) h)
    have hno := Lib.hid (fun h => allK_no (S := S) (k := k) h)
    have hpl : (allK S k).length ≤ 1000000 := Nat.le_trans (allK_len S k) (by omega)
    obtain ⟨xs, hxs⟩ : ∃ xs, allK S k = xs := ⟨_, rfl⟩
    rw [hxs] at hown hyes hno hpl
    have hown' := Lib.hid hown
    have hsn : Hid (flatI (xs ++ [(k : Int)]) = flatI xs ++ [.int .i64 k]) := Lib.hid (flatI_snoc _ _)
    have hbw' := Lib.hid hbw
    have hsz := hbw.size
    have hrwr := Lib.hid (hrw.out.on hbw)
    clear hxs hown hbw
    go_wp2
    go_loopw [11, 12, 13] (fun n wh c wr2 => ∃ j : Nat, j ≤ Nf ∧ c = .int .i64 j ∧ n = .int .i64 (pkK k S.rows j).1 ∧ wh = .int .i64 (pkK k S.rows j).2 ∧ wr2 = wr)
     (fun _ _ c _ => Nf - (intOf c).toNat)
    case atStart => exact ⟨0, Nat.zero_le _, rfl, rfl, rfl, rfl⟩
    case round =>
     obtain ⟨j, hj, rfl, rfl, rfl, rfl⟩ := hrel
     have hpb := pk_bd ho'.out (k : Int) (k := j) (by rw [hN.out]; exact hj)
     have hfin := pk_all ho'.out (k : Int)
     rw [hN.out] at hfin
     by_cases hlj : j < Nf
     · obtain ⟨l, hl⟩ : ∃ l, S.rows[j]? = some l := ⟨S.rows[j]'(by rw [hN.out]; exact hlj), List.getElem?_eq_getElem _⟩
       obtain ⟨v, hv⟩ : ∃ v, S.vs[j]? = some v := ⟨S.vs[j]'(by rw [hNf.out]; exact hlj), List.getElem?_eq_getElem _⟩
       obtain ⟨gr2, or2, u, er2, hgr, hru, hrow⟩ := Rws.at hrwr.out hl
       cases er2
       have hM0 : l.length ≤ 16 := (ho'.out.dr j v l hv hl).1.hn
       obtain ⟨x, M, cu, rfl, hM, -⟩ := hrow.opened
       rw [hM] at hM0
       have hMM := Lib.hid hM
       have hjI : (j : Int) < (Nf : Int) := by omega
       have hjN := Lib.hid hlj
       have hknx := Lib.hid (pkK_next (r := (k : Int)) hl)
       have hrow' := Lib.hid hrow
       obtain ⟨⟨n0, h0⟩, hnw⟩ : ∃ a, pkK (k : Int) S.rows j = a := ⟨_, rfl⟩
       rw [hnw] at hknx hpb ⊢
       simp at hru hpb
       clear hl hv hrow hM hfin hnw
       go_wp2
       go_loopw [11, 12, 14] (fun n wh c wr3 => ∃ m : Nat, m ≤ M ∧ c = .int .i64 m ∧ n = .int .i64 (pkR k j (n0, h0) (l.take m)).1 ∧ wh = .int .i64 (pkR k j (n0, h0) (l.take m)).2 ∧ wr3 = wr)
        (fun _ _ c _ => M - (intOf c).toNat)
       case atStart => exact ⟨0, Nat.zero_le _, rfl, rfl, rfl, rfl⟩
       case round =>
        obtain ⟨m, hm, rfl, rfl, rfl, rfl⟩ := hrel
        by_cases hlm : m < M
        · obtain ⟨⟨s1, s2⟩, hs⟩ : ∃ s, l[m]? = some s := ⟨l[m]'(by rw [hMM.out]; exact hlm), List.getElem?_eq_getElem _⟩
          obtain ⟨g, o, rfl, hg, e1, e2⟩ := Row.stop hrow'.out hs
          simp at e1 e2
          have hmM := Lib.hid hlm
          have hbd := pkR_bd (r := (k : Int)) (i := j) (l := l.take m) (a := (n0, h0))
          have hml : (l.take m).length ≤ 16 := by rw [List.length_take]; omega
          have hnx := pkR_next (r := (k : Int)) (i := j) (a := (n0, h0)) hs
          obtain ⟨⟨n1, h1⟩, hn1⟩ : ∃ a, pkR (k : Int) j (n0, h0) (l.take m) = a := ⟨_, rfl⟩
          rw [hn1] at hnx hbd ⊢
          have hb2 : 0 ≤ n1 ∧ n1 ≤ 20 := by simp at hbd; omega
          clear hs hn1 hbd hml
          cases he : (s1 == (k : Int))
          · have hy : Hid (pkR (k : Int) j (n0, h0) (l.take (m + 1)) = (n1, h1)) := Lib.hid (by rw [hnx]; exact pkS_no (fun e => by have := e.1; simp at he; exact he this))
            clear hnx
            go_wp2
            go_roundw
            case rel => exact ⟨m + 1, hmM.out, by go_num, by rw [hy.out], by rw [hy.out], by first | trivial | rfl⟩
            case measure => simp [intOf]; omega
          · cases he2 : (s2 == 0)
            · have hy : Hid (pkR (k : Int) j (n0, h0) (l.take (m + 1)) = (n1, h1)) := Lib.hid (by rw [hnx]; exact pkS_no (fun e => by have := e.2; simp at he2; exact he2 this))
              clear hnx
              go_wp2
              go_roundw
              case rel => exact ⟨m + 1, hmM.out, by go_num, by rw [hy.out], by rw [hy.out], by first | trivial | rfl⟩
              case measure => simp [intOf]; omega
            · have hy : Hid (pkR (k : Int) j (n0, h0) (l.take (m + 1)) = (n1 + 1, (j : Int))) := Lib.hid (by rw [hnx]; exact pkS_yes (by simpa using he) (by simpa using he2))
              clear hnx
              go_wp2
              go_roundw
              case rel => exact ⟨m + 1, hmM.out, by go_num, by rw [hy.out], by rw [hy.out], by first | trivial | rfl⟩
              case measure => simp [intOf]; omega
        · obtain rfl : m = M := by omega
          have hy : Hid (pkK (k : Int) S.rows (j + 1) = pkR (k : Int) j (n0, h0) (l.take m)) := Lib.hid (by rw [hknx.out, ← hMM.out, List.take_length])
          go_wp2
          go_roundw
          case rel => exact ⟨j + 1, hjN.out, by go_num, by rw [hy.out], by rw [hy.out], by first | trivial | rfl⟩
          case measure => simp [intOf]; omega
     · obtain rfl : j = Nf := by omega
       obtain ⟨V, hV⟩ : ∃ V, whereV S.rows k = V := ⟨_, rfl⟩
       rw [hV] at hyes hno hfin
       have hwh := Where_any (k : Int) wr (hA1.out.on hbw'.out) ho'.out
       rw [hV] at hwh
       have hVh := Lib.hid hV
       clear hV hpb
       rcases hfin with ⟨hV0, hfin⟩ | ⟨hV0, hfin⟩
       · rw [hfin]
         have hy := Lib.hid (hyes.out hV0)
         have hvv : (V != V) = false := by simp
         clear hfin hyes hno
         go_wp2_with fail
         refine hwh.mono ?_
         clear hwh
         rintro e w2 ⟨rfl, hb2⟩
         have hB2 := Lib.hid (hbw'.out.trans (hb2.mono hsz))
         have hhas := Has_any (k : Int) w2 (hA1.out.on hB2.out) ho'.out
         rw [hVh.out, decide_eq_true hV0] at hhas
         have hown2 := Lib.hid (own_on hown'.out hb2)
         have hs2 : w1.heap.size ≤ w2.heap.size := Nat.le_trans hsz hb2.size
         clear hb2
         go_wp2_with fail
         refine hhas.mono ?_
         clear hhas
         rintro e w3 ⟨rfl, hb3⟩
         have hB3 := Lib.hid (hB2.out.trans (hb3.mono hs2))
         have hown := own_on hown2.out hb3
         have hrow3 := Lib.hid (owns_row hown)
         have hs3 : w1.heap.size ≤ w3.heap.size := Nat.le_trans hs2 hb3.size
         clear hb3 hV0
         go_wp2_with (at_builtin; refine wpList_append_own _ rfl _ _ 66 rfl w1.heap.size 3 i0 (.int .i64 0) 1 8 Tryz.underlying66 hi hz0 hz1 hz2 rfl (by decide) _ _ _ rfl (hown.alloc _) ⟨w3.heap.size, 0, none⟩ 1 1 [.int .i64 k] rfl rfl (World.news_of_block (cs := #[.int .i64 k]) (t := 3) (fr := (0, 0)) (heap_alloc_new w3 _)) (by simp [Value.oneCell']) (by unfold maxLen; omega) (by omega) (by simp; omega) ?_; intro v7 w7 hown7 hgrow7 hnil7)
         have hb7 : Below w1.heap.size w1 w7 := (hB3.out.alloc hB3.out.size _).grown hgrow7 (by simp; omega) hrow3.out
         go_roundw
         case rel => exact ⟨k + 1, hkN.out, by go_num, by rw [hy.out, hsn.out, List.length_append]; exact hown7, hb7⟩
         case measure => simp [intOf]; omega
       · rw [hfin]
         subst hV0
         have hy := Lib.hid (hno.out (by omega))
         clear hfin hyes hno
         go_wp2_with fail
         refine hwh.mono ?_
         clear hwh
         rintro e w2 ⟨rfl, hb2⟩
         have hB2 := Lib.hid (hbw'.out.trans (hb2.mono hsz))
         have hhas := Has_any (k : Int) w2 (hA1.out.on hB2.out) ho'.out
         rw [hVh.out, decide_eq_false (by omega)] at hhas
         have hown2 := Lib.hid (own_on hown'.out hb2)
         have hs2 : w1.heap.size ≤ w2.heap.size := Nat.le_trans hsz hb2.size
         clear hb2
         go_wp2_with fail
         refine hhas.mono ?_
         clear hhas
         rintro e w3 ⟨rfl, hb3⟩
         have hB3 := Lib.hid (hB2.out.trans (hb3.mono hs2))
         have hown3 := Lib.hid (own_on hown2.out hb3)
         clear hb3
         go_wp2
         go_roundw
         case rel => exact ⟨k + 1, hkN.out, by go_num, by rw [hy.out]; exact hown3.out, hB3.out⟩
         case measure => simp [intOf]; omega
  · obtain rfl : Nt = k := by omega
    have he : Hid (allK S Nt = allS S) := Lib.hid (by unfold allK allS; rw [hNt.out])
    rw [he.out] at hown
    have hall := Lib.hid (Ints.of_owns (B := wr.heap.size) hown rfl (Nat.le_refl _))
    obtain ⟨xo, co, rfl, -⟩ := owns_slice hown
    have hA2 := Lib.hid (hA1.out.on hbw)
    have hV2 := Lib.hid (hV1.out.on hbw)
    have hT2 := Lib.hid (hT1.out.on hbw)
    have hrw2 := Lib.hid (hrw.out.on hbw)
    have hB2 := Lib.hid (hB1.out.trans (hbw.mono hs1))
    have hs2 : w.heap.size ≤ wr.heap.size := Nat.le_trans hs1 hbw.size
    have hal : (allS S).length ≤ 1000 := by have := allS_len S; rw [hNt.out] at this; omega
    obtain ⟨NA, hNA⟩ : ∃ n, (allS S).length = n := ⟨_, rfl⟩
    rw [hNA] at hall ⊢
    obtain ⟨w2, hw2⟩ : ∃ w2, w2 = wr := ⟨_, rfl⟩
    subst hw2
    clear hown hbw hA1 hV1 hT1 hrw hB1 he
    go_wp2
    go_loopw [8, 15] (fun n i wr => ∃ k : Nat, k ≤ Nf ∧ i = .int .i64 k ∧ n = .int .i64 (totK S k) ∧ Below w2.heap.size w2 wr)
     (fun _ c _ => Nf - (intOf c).toNat)
    case atStart => exact ⟨0, Nat.zero_le _, rfl, by rw [totK_zero], Below.refl _ _⟩
    case round =>
     obtain ⟨k, hk, rfl, rfl, hbw⟩ := hrel
     by_cases hlt : k < Nf
     · obtain ⟨v, hv⟩ : ∃ v, S.vs[k]? = some v := ⟨S.vs[k]'(by rw [hNf.out]; exact hlt), List.getElem?_eq_getElem _⟩
       obtain ⟨l, hl⟩ : ∃ l, S.rows[k]? = some l := ⟨S.rows[k]'(by rw [hN.out]; exact hlt), List.getElem?_eq_getElem _⟩
       obtain ⟨gv, ov, rfl, hgv, q0, q1, q2, q3, q4⟩ := Vhs.at (hV2.out.on hbw) hv
       obtain ⟨gr2, or2, u, er2, hgr, hru, hrow⟩ := Rws.at (hrw2.out.on hbw) hl
       cases er2
       obtain ⟨hd, he, hf, hnum⟩ := ho'.out.dr k v l hv hl
       have hflt := Lib.hid ((fault_iff hd).2 ⟨he, hf⟩)
       have hnx := Lib.hid (totK_next hv hl)
       have hbd := totK_bd ho'.out k (by rw [hNf.out]; omega)
       have hst := ho'.out.stb hv
       have hhb := homeT_bd v l S.t
       have hl16 : l.length ≤ 1000000 := by have := hd.hn; omega
       have hkF : (k : Int) < (Nf : Int) := by omega
       have hkN := Lib.hid hlt
       obtain ⟨H, hH⟩ : ∃ H, homeT v l S.t = H := ⟨_, rfl⟩
       rw [hH] at hnx hhb
       have hH' := Lib.hid hH
       have hE0 := Lib.hid he
       obtain ⟨xu, Nu, cu, rfl, -⟩ := hrow.opened
       have hrow' := Lib.hid hrow
       have hT' := Lib.hid (hT2.out.on hbw)
       have hbw' := Lib.hid hbw
       have hsz := hbw.size
       have hnum' := Lib.hid hnum
       have hkk : k ≤ 4 := by omega
       have hb1 : -(1048576 * 4) ≤ totK S k ∧ totK S k ≤ 3000000 * 4 := by omega
       obtain ⟨n0, hn0⟩ : ∃ n, totK S k = n := ⟨_, rfl⟩
       rw [hn0] at hb1 hnx ⊢
       simp at hru
       clear hv hl hrow hd he hf hnum hbw hH hbd hn0
       go_upto_region 26 with fail
       refine Sched.wp_region_sched 16 (fun W W' => Below W.heap.size W W') (VK [.val (.slice (some ⟨gv, ov, none⟩) Nf cf), .val (.int .i64 k), .val (.pointer (some ⟨gv, ov + k * 5, none⟩)), .val (.agg #[.int .i64 v.hx, .int .i64 v.hy, .int .i64 v.cp, .int .i64 v.st, .int .i64 v.en]), .val (.slice (some ⟨gr, 0, none⟩) Nf cu0), .val (.int .i64 k), .val (.pointer (some ⟨gr, k, none⟩)), .val (.slice xu Nu cu), .val (.slice xt Nt ct), .of (fun x _ => ∃ y M d, x = .tuple #[.slice y M d, .int .i64 H, .int .i64 0]) (fun h _ => h), .of (fun x _ => ∃ y M d, x = .tuple #[.slice y M d, .int .i64 H, .int .i64 0]) (fun h _ => h), .of (fun _ _ => True) (fun _ _ => trivial), .val (.int .i64 H), .val (.int .i64 0), .of (fun _ _ => True) (fun _ _ => trivial), .val (.int .i64 H)]) (fun _ _ _ => True) (by kernel_rfl) (by kernel_rfl) (by kernel_rfl) (fun h1 h2 => belowTr h1 h2) (fun h1 h2 => VK.keep h1 h2) (Below.refl _ _).drew (fun _ => trivial) (Sched.StepsA.steps (by kernel_rfl) ?hSA) ?hQA
       case hSA =>
        simp only [List.take_succ_cons, List.take_zero]
        refine ⟨?_, ?_, ?_, ?_, ?_, ?_, ?_, ?_, ?_, ?_, ?_, ?_, ?_, ?_, ?_, ?_, trivial⟩
        · intro ys done W aa hE hn hF hD hZ hG hO
          replace hE : Below wr.heap.size wr W := hE
          have o1 := hO 1 (by kernel_rfl)
          replace o1 : aa.tmps[1]? = some (.slice (some ⟨gv, ov, none⟩) Nf cf) := o1
          go_wp2_with fail
          first | exact ⟨_, rfl, Below.refl _ _, VK.val rfl rfl, trivial⟩ | exact ⟨_, rfl, Below.refl _ _, VK.val rfl rfl⟩
        · intro ys done W aa hE hn hF hD hZ hG hO
          replace hE : Below wr.heap.size wr W := hE
          have o15 := hO 15 (by kernel_rfl)
          replace o15 : aa.tmps[15]? = some (.int .i64 k) := o15
          go_wp2_with fail
          first | exact ⟨_, rfl, Below.refl _ _, VK.val rfl rfl, trivial⟩ | exact ⟨_, rfl, Below.refl _ _, VK.val rfl rfl⟩
        · intro ys done W aa hE hn hF hD hZ hG hO
          replace hE : Below wr.heap.size wr W := hE
          have v0 := (hF 0 (by decide) (hD 0 (by kernel_rfl))).eq rfl
          have g0 := hG 0 101 rfl (Nat.le_of_ble_eq_true rfl)
          rw [v0] at g0
          have v1 := (hF 1 (by decide) (hD 1 (by kernel_rfl))).eq rfl
          have g1 := hG 1 102 rfl (Nat.le_of_ble_eq_true rfl)
          rw [v1] at g1
          go_wp2_with fail
          first | exact ⟨_, rfl, Below.refl _ _, VK.val rfl rfl, trivial⟩ | exact ⟨_, rfl, Below.refl _ _, VK.val rfl rfl⟩
        · intro ys done W aa hE hn hF hD hZ hG hO
          replace hE : Below wr.heap.size wr W := hE
          have v2 := (hF 2 (by decide) (hD 2 (by kernel_rfl))).eq rfl
          have g2 := hG 2 103 rfl (Nat.le_of_ble_eq_true rfl)
          rw [v2] at g2
          have z0 := (hE.cell (p := ⟨gv, ov + k * 5, none⟩) hgv).trans q0
          have z1 := (hE.cell (p := ⟨gv, ov + k * 5 + 1, none⟩) hgv).trans q1
          have z2 := (hE.cell (p := ⟨gv, ov + k * 5 + 2, none⟩) hgv).trans q2
          have z3 := (hE.cell (p := ⟨gv, ov + k * 5 + 3, none⟩) hgv).trans q3
          have z4 := (hE.cell (p := ⟨gv, ov + k * 5 + 4, none⟩) hgv).trans q4
          go_wp2_with fail
          first | exact ⟨_, rfl, Below.refl _ _, VK.val rfl rfl, trivial⟩ | exact ⟨_, rfl, Below.refl _ _, VK.val rfl rfl⟩
        · intro ys done W aa hE hn hF hD hZ hG hO
          replace hE : Below wr.heap.size wr W := hE
          have o7 := hO 7 (by kernel_rfl)
          replace o7 : aa.tmps[7]? = some (.slice (some ⟨gr, 0, none⟩) Nf cu0) := o7
          go_wp2_with fail
          first | exact ⟨_, rfl, Below.refl _ _, VK.val rfl rfl, trivial⟩ | exact ⟨_, rfl, Below.refl _ _, VK.val rfl rfl⟩
        · intro ys done W aa hE hn hF hD hZ hG hO
          replace hE : Below wr.heap.size wr W := hE
          have o15 := hO 15 (by kernel_rfl)
          replace o15 : aa.tmps[15]? = some (.int .i64 k) := o15
          go_wp2_with fail
          first | exact ⟨_, rfl, Below.refl _ _, VK.val rfl rfl, trivial⟩ | exact ⟨_, rfl, Below.refl _ _, VK.val rfl rfl⟩
        · intro ys done W aa hE hn hF hD hZ hG hO
          replace hE : Below wr.heap.size wr W := hE
          have v4 := (hF 4 (by decide) (hD 4 (by kernel_rfl))).eq rfl
          have g4 := hG 4 105 rfl (Nat.le_of_ble_eq_true rfl)
          rw [v4] at g4
          have v5 := (hF 5 (by decide) (hD 5 (by kernel_rfl))).eq rfl
          have g5 := hG 5 106 rfl (Nat.le_of_ble_eq_true rfl)
          rw [v5] at g5
          go_wp2_with fail
          first | exact ⟨_, rfl, Below.refl _ _, VK.val rfl rfl, trivial⟩ | exact ⟨_, rfl, Below.refl _ _, VK.val rfl rfl⟩
        · intro ys done W aa hE hn hF hD hZ hG hO
          replace hE : Below wr.heap.size wr W := hE
          have v6 := (hF 6 (by decide) (hD 6 (by kernel_rfl))).eq rfl
          have g6 := hG 6 107 rfl (Nat.le_of_ble_eq_true rfl)
          rw [v6] at g6
          have z0 := (hE.cell (p := ⟨gr, k, none⟩) hgr).trans hru
          go_wp2_with fail
          first | exact ⟨_, rfl, Below.refl _ _, VK.val rfl rfl, trivial⟩ | exact ⟨_, rfl, Below.refl _ _, VK.val rfl rfl⟩
        · intro ys done W aa hE hn hF hD hZ hG hO
          replace hE : Below wr.heap.size wr W := hE
          have o2 := hO 2 (by kernel_rfl)
          replace o2 : aa.tmps[2]? = some (.slice xt Nt ct) := o2
          go_wp2_with fail
          first | exact ⟨_, rfl, Below.refl _ _, VK.val rfl rfl, trivial⟩ | exact ⟨_, rfl, Below.refl _ _, VK.val rfl rfl⟩
        · intro ys done W aa hE hn hF hD hZ hG hO
          replace hE : Below wr.heap.size wr W := hE
          have v3 := (hF 3 (by decide) (hD 3 (by kernel_rfl))).eq rfl
          have g3 := hG 3 104 rfl (Nat.le_of_ble_eq_true rfl)
          rw [v3] at g3
          have v7 := (hF 7 (by decide) (hD 7 (by kernel_rfl))).eq rfl
          have g7 := hG 7 108 rfl (Nat.le_of_ble_eq_true rfl)
          rw [v7] at g7
          have v8 := (hF 8 (by decide) (hD 8 (by kernel_rfl))).eq rfl
          have g8 := hG 8 109 rfl (Nat.le_of_ble_eq_true rfl)
          rw [v8] at g8
          go_wp2_with fail
          refine (Times_any v _ _ l S.t hl16 hnum'.out W (hrow'.out.on hE) (hT'.out.on hE)).mono ?_
          rintro e W' ⟨⟨u9, rfl, hu9⟩, hb'⟩
          obtain ⟨y9, M9, d9, rfl, -⟩ := Tms.opened hu9
          rw [hH'.out, hE0.out]
          replace hb' := Lib.hid hb'
          go_wp2_with fail
          first | exact ⟨_, rfl, hb'.out, VK.of rfl ⟨_, _, _, rfl⟩, trivial⟩ | exact ⟨_, rfl, hb'.out, VK.of rfl ⟨_, _, _, rfl⟩⟩
        · intro ys done W aa hE hn hF hD hZ hG hO
          replace hE : Below wr.heap.size wr W := hE
          have v9 := (hF 9 (by decide) (hD 9 (by kernel_rfl))).get rfl
          have g9 := hG 9 110 rfl (Nat.le_of_ble_eq_true rfl)
          go_wp2_with fail
          first | exact ⟨_, rfl, Below.refl _ _, VK.of rfl v9, trivial⟩ | exact ⟨_, rfl, Below.refl _ _, VK.of rfl v9⟩
        · intro ys done W aa hE hn hF hD hZ hG hO
          replace hE : Below wr.heap.size wr W := hE
          have v10 := (hF 10 (by decide) (hD 10 (by kernel_rfl))).get rfl
          have g10 := hG 10 100 rfl (Nat.le_of_ble_eq_true rfl)
          obtain ⟨y9, M9, d9, e9⟩ := v10
          rw [e9] at g10
          go_wp2_with fail
          first | exact ⟨_, rfl, Below.refl _ _, VK.of rfl trivial, trivial⟩ | exact ⟨_, rfl, Below.refl _ _, VK.of rfl trivial⟩
        · intro ys done W aa hE hn hF hD hZ hG hO
          replace hE : Below wr.heap.size wr W := hE
          have v10 := (hF 10 (by decide) (hD 10 (by kernel_rfl))).get rfl
          have g10 := hG 10 100 rfl (Nat.le_of_ble_eq_true rfl)
          obtain ⟨y9, M9, d9, e9⟩ := v10
          rw [e9] at g10
          go_wp2_with fail
          first | exact ⟨_, rfl, Below.refl _ _, VK.val rfl rfl, trivial⟩ | exact ⟨_, rfl, Below.refl _ _, VK.val rfl rfl⟩
        · intro ys done W aa hE hn hF hD hZ hG hO
          replace hE : Below wr.heap.size wr W := hE
          have v10 := (hF 10 (by decide) (hD 10 (by kernel_rfl))).get rfl
          have g10 := hG 10 100 rfl (Nat.le_of_ble_eq_true rfl)
          obtain ⟨y9, M9, d9, e9⟩ := v10
          rw [e9] at g10
          go_wp2_with fail
          first | exact ⟨_, rfl, Below.refl _ _, VK.val rfl rfl, trivial⟩ | exact ⟨_, rfl, Below.refl _ _, VK.val rfl rfl⟩
        · intro ys done W aa hE hn hF hD hZ hG hO
          replace hE : Below wr.heap.size wr W := hE
          have v11 := (hF 11 (by decide) (hD 11 (by kernel_rfl))).get rfl
          have g11 := hG 11 111 rfl (Nat.le_of_ble_eq_true rfl)
          go_wp2_with fail
          first | exact ⟨_, rfl, Below.refl _ _, VK.of rfl trivial, trivial⟩ | exact ⟨_, rfl, Below.refl _ _, VK.of rfl trivial⟩
        · intro ys done W aa hE hn hF hD hZ hG hO
          replace hE : Below wr.heap.size wr W := hE
          have v12 := (hF 12 (by decide) (hD 12 (by kernel_rfl))).eq rfl
          have g12 := hG 12 112 rfl (Nat.le_of_ble_eq_true rfl)
          rw [v12] at g12
          go_wp2_with fail
          first | exact ⟨_, rfl, Below.refl _ _, VK.val rfl rfl, trivial⟩ | exact ⟨_, rfl, Below.refl _ _, VK.val rfl rfl⟩
       case hQA =>
        intro ys w6 hE hF _
        replace hE : Below wr.heap.size wr w6 := hE
        have v13 := (hF 13 (by decide)).eq rfl
        have v15 := (hF 15 (by decide)).eq rfl
        simp only [List.take_succ_cons, List.take_zero, List.drop_succ_cons, List.drop_zero, Sched.fill, v13, v15]
        clear hF v13 v15
        go_simp
        replace q0 := (hE.cell (p := ⟨gv, ov + k * 5, none⟩) hgv).trans q0
        replace q1 := (hE.cell (p := ⟨gv, ov + k * 5 + 1, none⟩) hgv).trans q1
        replace q2 := (hE.cell (p := ⟨gv, ov + k * 5 + 2, none⟩) hgv).trans q2
        replace q3 := (hE.cell (p := ⟨gv, ov + k * 5 + 3, none⟩) hgv).trans q3
        replace q4 := (hE.cell (p := ⟨gv, ov + k * 5 + 4, none⟩) hgv).trans q4
        replace hru := (hE.cell (p := ⟨gr, k, none⟩) hgr).trans hru
        replace hgv := Nat.lt_of_lt_of_le hgv hE.size
        replace hgr := Nat.lt_of_lt_of_le hgr hE.size
        replace hrow' := Lib.hid (hrow'.out.on hE)
        replace hT' := Lib.hid (hT'.out.on hE)
        replace hbw' := Lib.hid (hbw'.out.trans (hE.mono hsz))
        replace hsz := Nat.le_trans hsz hE.size
        clear hE
        go_upto_region 27 with fail
        refine Sched.wp_region_sched 14 (fun W W' => Below W.heap.size W W') (VK [.val (.int .i64 0), .val (.bool false), .val (.bool false), .val (.slice (some ⟨gv, ov, none⟩) Nf cf), .val (.int .i64 k), .val (.pointer (some ⟨gv, ov + k * 5, none⟩)), .val (.agg #[.int .i64 v.hx, .int .i64 v.hy, .int .i64 v.cp, .int .i64 v.st, .int .i64 v.en]), .val (.slice (some ⟨gr, 0, none⟩) Nf cu0), .val (.int .i64 k), .val (.pointer (some ⟨gr, k, none⟩)), .val (.slice xu Nu cu), .val (.slice xt Nt ct), .val (.nilIface), .val (.bool false)]) (fun _ _ _ => True) (by kernel_rfl) (by kernel_rfl) (by kernel_rfl) (fun h1 h2 => belowTr h1 h2) (fun h1 h2 => VK.keep h1 h2) (Below.refl _ _).drew (fun _ => trivial) (Sched.StepsA.steps (by kernel_rfl) ?hSB) ?hQB
        case hSB =>
         simp only [List.take_succ_cons, List.take_zero]
         refine ⟨?_, ?_, ?_, ?_, ?_, ?_, ?_, ?_, ?_, ?_, ?_, ?_, ?_, ?_, trivial⟩
         · intro ys done W aa hE hn hF hD hZ hG hO
           replace hE : Below w6.heap.size w6 W := hE
           have o18 := hO 18 (by kernel_rfl)
           replace o18 : aa.tmps[18]? = some (.int .i64 0) := o18
           go_wp2_with fail
           first | exact ⟨_, rfl, Below.refl _ _, VK.val rfl rfl, trivial⟩ | exact ⟨_, rfl, Below.refl _ _, VK.val rfl rfl⟩
         · intro ys done W aa hE hn hF hD hZ hG hO
           replace hE : Below w6.heap.size w6 W := hE
           have v0 := (hF 0 (by decide) (hD 0 (by kernel_rfl))).eq rfl
           have g0 := hG 0 114 rfl (Nat.le_of_ble_eq_true rfl)
           rw [v0] at g0
           go_wp2_with fail
           first | exact ⟨_, rfl, Below.refl _ _, VK.val rfl rfl, trivial⟩ | exact ⟨_, rfl, Below.refl _ _, VK.val rfl rfl⟩
         · intro ys done W aa hE hn hF hD hZ hG hO
           replace hE : Below w6.heap.size w6 W := hE
           have v1 := (hF 1 (by decide) (hD 1 (by kernel_rfl))).eq rfl
           have g1 := hG 1 115 rfl (Nat.le_of_ble_eq_true rfl)
           rw [v1] at g1
           go_wp2_with fail
           first | exact ⟨_, rfl, Below.refl _ _, VK.val rfl rfl, trivial⟩ | exact ⟨_, rfl, Below.refl _ _, VK.val rfl rfl⟩
         · intro ys done W aa hE hn hF hD hZ hG hO
           replace hE : Below w6.heap.size w6 W := hE
           have v2 := (hF 2 (by decide) (hD 2 (by kernel_rfl))).eq rfl
           have g2 := hG 2 116 rfl (Nat.le_of_ble_eq_true rfl)
           rw [v2] at g2
           refine BigFrame.wpList_want (by simp [Region.wanted, yielded, g2]) ?_
           intro K hK
           have o1 := hO 1 (by kernel_rfl)
           replace o1 : aa.tmps[1]? = some (.slice (some ⟨gv, ov, none⟩) Nf cf) := o1
           go_wp2_with fail
           first | exact ⟨_, rfl, Below.refl _ _, VK.val rfl rfl, trivial⟩ | exact ⟨_, rfl, Below.refl _ _, VK.val rfl rfl⟩
         · intro ys done W aa hE hn hF hD hZ hG hO
           replace hE : Below w6.heap.size w6 W := hE
           have v2 := (hF 2 (by decide) (hD 2 (by kernel_rfl))).eq rfl
           have g2 := hG 2 116 rfl (Nat.le_of_ble_eq_true rfl)
           rw [v2] at g2
           refine BigFrame.wpList_want (by simp [Region.wanted, yielded, g2]) ?_
           intro K hK
           have o15 := hO 15 (by kernel_rfl)
           replace o15 : aa.tmps[15]? = some (.int .i64 k) := o15
           go_wp2_with fail
           first | exact ⟨_, rfl, Below.refl _ _, VK.val rfl rfl, trivial⟩ | exact ⟨_, rfl, Below.refl _ _, VK.val rfl rfl⟩
         · intro ys done W aa hE hn hF hD hZ hG hO
           replace hE : Below w6.heap.size w6 W := hE
           have v2 := (hF 2 (by decide) (hD 2 (by kernel_rfl))).eq rfl
           have g2 := hG 2 116 rfl (Nat.le_of_ble_eq_true rfl)
           rw [v2] at g2
           refine BigFrame.wpList_want (by simp [Region.wanted, yielded, g2]) ?_
           intro K hK
           have v3 := (hF 3 (by decide) (hD 3 (by kernel_rfl))).eq rfl
           have g3 := hG 3 117 rfl (Nat.le_of_ble_eq_true rfl)
           rw [v3] at g3
           have v4 := (hF 4 (by decide) (hD 4 (by kernel_rfl))).eq rfl
           have g4 := hG 4 118 rfl (Nat.le_of_ble_eq_true rfl)
           rw [v4] at g4
           go_wp2_with fail
           first | exact ⟨_, rfl, Below.refl _ _, VK.val rfl rfl, trivial⟩ | exact ⟨_, rfl, Below.refl _ _, VK.val rfl rfl⟩
         · intro ys done W aa hE hn hF hD hZ hG hO
           replace hE : Below w6.heap.size w6 W := hE
           have v2 := (hF 2 (by decide) (hD 2 (by kernel_rfl))).eq rfl
           have g2 := hG 2 116 rfl (Nat.le_of_ble_eq_true rfl)
           rw [v2] at g2
           refine BigFrame.wpList_want (by simp [Region.wanted, yielded, g2]) ?_
           intro K hK
           have v5 := (hF 5 (by decide) (hD 5 (by kernel_rfl))).eq rfl
           have g5 := hG 5 119 rfl (Nat.le_of_ble_eq_true rfl)
           rw [v5] at g5
           have z0 := (hE.cell (p := ⟨gv, ov + k * 5, none⟩) hgv).trans q0
           have z1 := (hE.cell (p := ⟨gv, ov + k * 5 + 1, none⟩) hgv).trans q1
           have z2 := (hE.cell (p := ⟨gv, ov + k * 5 + 2, none⟩) hgv).trans q2
           have z3 := (hE.cell (p := ⟨gv, ov + k * 5 + 3, none⟩) hgv).trans q3
           have z4 := (hE.cell (p := ⟨gv, ov + k * 5 + 4, none⟩) hgv).trans q4
           go_wp2_with fail
           first | exact ⟨_, rfl, Below.refl _ _, VK.val rfl rfl, trivial⟩ | exact ⟨_, rfl, Below.refl _ _, VK.val rfl rfl⟩
         · intro ys done W aa hE hn hF hD hZ hG hO
           replace hE : Below w6.heap.size w6 W := hE
           have v2 := (hF 2 (by decide) (hD 2 (by kernel_rfl))).eq rfl
           have g2 := hG 2 116 rfl (Nat.le_of_ble_eq_true rfl)
           rw [v2] at g2
           refine BigFrame.wpList_want (by simp [Region.wanted, yielded, g2]) ?_
           intro K hK
           have o7 := hO 7 (by kernel_rfl)
           replace o7 : aa.tmps[7]? = some (.slice (some ⟨gr, 0, none⟩) Nf cu0) := o7
           go_wp2_with fail
           first | exact ⟨_, rfl, Below.refl _ _, VK.val rfl rfl, trivial⟩ | exact ⟨_, rfl, Below.refl _ _, VK.val rfl rfl⟩
         · intro ys done W aa hE hn hF hD hZ hG hO
           replace hE : Below w6.heap.size w6 W := hE
           have v2 := (hF 2 (by decide) (hD 2 (by kernel_rfl))).eq rfl
           have g2 := hG 2 116 rfl (Nat.le_of_ble_eq_true rfl)
           rw [v2] at g2
           refine BigFrame.wpList_want (by simp [Region.wanted, yielded, g2]) ?_
           intro K hK
           have o15 := hO 15 (by kernel_rfl)
           replace o15 : aa.tmps[15]? = some (.int .i64 k) := o15
           go_wp2_with fail
           first | exact ⟨_, rfl, Below.refl _ _, VK.val rfl rfl, trivial⟩ | exact ⟨_, rfl, Below.refl _ _, VK.val rfl rfl⟩
         · intro ys done W aa hE hn hF hD hZ hG hO
           replace hE : Below w6.heap.size w6 W := hE
           have v2 := (hF 2 (by decide) (hD 2 (by kernel_rfl))).eq rfl
           have g2 := hG 2 116 rfl (Nat.le_of_ble_eq_true rfl)
           rw [v2] at g2
           refine BigFrame.wpList_want (by simp [Region.wanted, yielded, g2]) ?_
           intro K hK
           have v7 := (hF 7 (by decide) (hD 7 (by kernel_rfl))).eq rfl
           have g7 := hG 7 121 rfl (Nat.le_of_ble_eq_true rfl)
           rw [v7] at g7
           have v8 := (hF 8 (by decide) (hD 8 (by kernel_rfl))).eq rfl
           have g8 := hG 8 122 rfl (Nat.le_of_ble_eq_true rfl)
           rw [v8] at g8
           go_wp2_with fail
           first | exact ⟨_, rfl, Below.refl _ _, VK.val rfl rfl, trivial⟩ | exact ⟨_, rfl, Below.refl _ _, VK.val rfl rfl⟩
         · intro ys done W aa hE hn hF hD hZ hG hO
           replace hE : Below w6.heap.size w6 W := hE
           have v2 := (hF 2 (by decide) (hD 2 (by kernel_rfl))).eq rfl
           have g2 := hG 2 116 rfl (Nat.le_of_ble_eq_true rfl)
           rw [v2] at g2
           refine BigFrame.wpList_want (by simp [Region.wanted, yielded, g2]) ?_
           intro K hK
           have v9 := (hF 9 (by decide) (hD 9 (by kernel_rfl))).eq rfl
           have g9 := hG 9 123 rfl (Nat.le_of_ble_eq_true rfl)
           rw [v9] at g9
           have z0 := (hE.cell (p := ⟨gr, k, none⟩) hgr).trans hru
           go_wp2_with fail
           first | exact ⟨_, rfl, Below.refl _ _, VK.val rfl rfl, trivial⟩ | exact ⟨_, rfl, Below.refl _ _, VK.val rfl rfl⟩
         · intro ys done W aa hE hn hF hD hZ hG hO
           replace hE : Below w6.heap.size w6 W := hE
           have v2 := (hF 2 (by decide) (hD 2 (by kernel_rfl))).eq rfl
           have g2 := hG 2 116 rfl (Nat.le_of_ble_eq_true rfl)
           rw [v2] at g2
           refine BigFrame.wpList_want (by simp [Region.wanted, yielded, g2]) ?_
           intro K hK
           have o2 := hO 2 (by kernel_rfl)
           replace o2 : aa.tmps[2]? = some (.slice xt Nt ct) := o2
           go_wp2_with fail
           first | exact ⟨_, rfl, Below.refl _ _, VK.val rfl rfl, trivial⟩ | exact ⟨_, rfl, Below.refl _ _, VK.val rfl rfl⟩
         · intro ys done W aa hE hn hF hD hZ hG hO
           replace hE : Below w6.heap.size w6 W := hE
           have v2 := (hF 2 (by decide) (hD 2 (by kernel_rfl))).eq rfl
           have g2 := hG 2 116 rfl (Nat.le_of_ble_eq_true rfl)
           rw [v2] at g2
           refine BigFrame.wpList_want (by simp [Region.wanted, yielded, g2]) ?_
           intro K hK
           have v6 := (hF 6 (by decide) (hD 6 (by kernel_rfl))).eq rfl
           have g6 := hG 6 120 rfl (Nat.le_of_ble_eq_true rfl)
           rw [v6] at g6
           have v10 := (hF 10 (by decide) (hD 10 (by kernel_rfl))).eq rfl
           have g10 := hG 10 124 rfl (Nat.le_of_ble_eq_true rfl)
           rw [v10] at g10
           have v11 := (hF 11 (by decide) (hD 11 (by kernel_rfl))).eq rfl
           have g11 := hG 11 125 rfl (Nat.le_of_ble_eq_true rfl)
           rw [v11] at g11
           go_wp2_with fail
           refine (Check_any v _ _ l S.t hl16 hnum'.out W (hrow'.out.on hE) (hT'.out.on hE)).mono ?_
           rintro e W' ⟨⟨u9, rfl, hu9⟩, hb'⟩
           obtain rfl := check_nil hu9 hflt.out
           clear hu9
           replace hb' := Lib.hid hb'
           go_wp2_with fail
           first | exact ⟨_, rfl, hb'.out, VK.val rfl rfl, trivial⟩ | exact ⟨_, rfl, hb'.out, VK.val rfl rfl⟩
         · intro ys done W aa hE hn hF hD hZ hG hO
           replace hE : Below w6.heap.size w6 W := hE
           have v2 := (hF 2 (by decide) (hD 2 (by kernel_rfl))).eq rfl
           have g2 := hG 2 116 rfl (Nat.le_of_ble_eq_true rfl)
           rw [v2] at g2
           refine BigFrame.wpList_want (by simp [Region.wanted, yielded, g2]) ?_
           intro K hK
           have v12 := (hF 12 (by decide) (hD 12 (by kernel_rfl))).eq rfl
           have g12 := hG 12 126 rfl (Nat.le_of_ble_eq_true rfl)
           rw [v12] at g12
           go_wp2_with fail
           first | exact ⟨_, rfl, Below.refl _ _, VK.val rfl rfl, trivial⟩ | exact ⟨_, rfl, Below.refl _ _, VK.val rfl rfl⟩
        case hQB =>
         intro ys w7 hE hF _
         replace hE : Below w6.heap.size w6 w7 := hE
         have v2 := (hF 2 (by decide)).eq rfl
         have v13 := (hF 13 (by decide)).eq rfl
         simp only [List.take_succ_cons, List.take_zero, List.drop_succ_cons, List.drop_zero, Sched.fill, v2, v13]
         clear hF v2 v13
         go_simp
         have z3 := (hE.cell (p := ⟨gv, ov + k * 5 + 3, none⟩) hgv).trans q3
         have hB6 := Lib.hid (hbw'.out.trans (hE.mono hsz))
         have hgv6 : gv < w7.heap.size := Nat.lt_of_lt_of_le hgv hE.size
         clear hE q0 q1 q2 q3 q4 hru
         go_wp2
         go_roundw
         case rel => exact ⟨k + 1, hkN.out, by go_num, by rw [hnx.out], hB6.out⟩
         case measure => simp [intOf]; omega
     · obtain rfl : k = Nf := by omega
       have he := totK_all ho'.out hNf.out.symm
       have hTo := Total_any wr (hA2.out.on hbw) ho'.out
       rw [he]
       have hA3 := Lib.hid (hA2.out.on hbw)
       have hall3 := Lib.hid (hall.out.on hbw)
       have hB3 := Lib.hid (hB2.out.trans (hbw.mono hs2))
       have hs3 : w.heap.size ≤ wr.heap.size := Nat.le_trans hs2 hbw.size
       obtain ⟨H, hH⟩ : ∃ H, totS S = H := ⟨_, rfl⟩
       rw [hH] at hTo ⊢
       have hHH : (H == H) = true := by simp
       clear he hbw hA2 hall hB2 hV2 hT2 hrw2
       go_wp2_with fail
       refine hTo.mono ?_
       clear hTo
       rintro e w4 ⟨rfl, hb4⟩
       have hAl := All_any w4 (hA3.out.on hb4) ho'.out
       have hall4 := Lib.hid (hall3.out.on hb4)
       have hB4 := Lib.hid (hB3.out.trans (hb4.mono hs3))
       have hs4 : w.heap.size ≤ w4.heap.size := Nat.le_trans hs3 hb4.size
       clear hb4 hA3 hall3
       go_wp2_with fail
       refine hAl.mono ?_
       clear hAl
       rintro e w5 ⟨⟨u5, rfl, hu5⟩, hb5⟩
       have hal5 := Lib.hid (Ints.of_owns (B := w5.heap.size) hu5 rfl (Nat.le_refl _))
       obtain ⟨x5, c5, rfl, -⟩ := owns_slice hu5
       have hIn := refInts_same _ _ (allS S) (by omega) w5 (hall4.out.on hb5) hal5.out
       have hB5 := Lib.hid (hB4.out.trans (hb5.mono hs4))
       have hs5 : w.heap.size ≤ w5.heap.size := Nat.le_trans hs4 hb5.size
       clear hb5 hall4 hu5 hal5
       rw [hNA] at hIn ⊢
       go_wp2_with fail
       refine hIn.mono ?_
       clear hIn
       rintro e w8 ⟨rfl, hb8⟩
       have hB8 := Lib.hid (hB5.out.trans (hb8.mono hs5))
       clear hb8
       go_wp2
       go_ret
       exact ⟨rfl, hB8.out⟩
end Go.Proofs.YtlbghdiebjldjaaGreatDoor.Plan

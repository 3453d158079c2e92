import Derived.Test.YtlbghdiebjldjaaGreatDoorPkPlanHoldsMath

namespace Go.Proofs.YtlbghdiebjldjaaGreatDoor.Feas
open Go.RowKit Go.Sort Go.Proofs.YtlbghdiebjldjaaGreatDoor.Mem Go.Proofs.YtlbghdiebjldjaaGreatDoor.Route Go.Proofs.YtlbghdiebjldjaaGreatDoor.When Go.Proofs.YtlbghdiebjldjaaGreatDoor.Load Go.Proofs.YtlbghdiebjldjaaGreatDoor.Float Go.Proofs.YtlbghdiebjldjaaGreatDoor.Tail Go.Proofs.YtlbghdiebjldjaaGreatDoor.Place
set_option linter.unusedVariables false
def ErrAt (w : World) (u : Value) (f : Int × Int × Int) : Prop :=
 (f.1 = 0 ∧ u = .nilIface) ∨ (f.1 ≠ 0 ∧ ∃ q, u = .iface 149 (.pointer (some ⟨q, 0, none⟩)) ∧ At w q 146 #[.int .i64 f.1, .int .i64 f.2.1, .int .i64 f.2.2])
theorem ErrAt.on {w w' : World} {u : Value} {f : Int × Int × Int} (h : ErrAt w u f) (hb : Below w.heap.size w w') : ErrAt w' u f := by
 rcases h with h | ⟨h, q, e, hq⟩
 · exact .inl h
 · exact .inr ⟨h, q, e, hq.keep hb hq.inside⟩
set_option maxRecDepth 100000 in
set_option maxHeartbeats 4000000 in
theorem Check_any (v : Vh) (vl vt : Value) (l : List (Int × Int)) (t : List Rq) (hl : l.length ≤ 1000000) (hnum : Nums l) (w : World) (hL : Row w.heap.size w vl l) (hT : Rqs w.heap.size w vt t) :
 Calls Tryz.prog 52 #[.agg #[.int .i64 v.hx, .int .i64 v.hy, .int .i64 v.cp, .int .i64 v.st, .int .i64 v.en], vl, vt] w fun e w' => (∃ u, e = .returned u ∧ ErrAt w' u (faultV v l t)) ∧ Below w.heap.size w w' := by
 obtain ⟨w0, hw0⟩ : ∃ w0, w.alloc (.cells #[.int .i64 v.hx, .int .i64 v.hy, .int .i64 v.cp, .int .i64 v.st, .int .i64 v.en] 64) = w0 := ⟨_, rfl⟩
 obtain ⟨q, hq⟩ : ∃ q, w.heap.size = q := ⟨_, rfl⟩
 have hV : At w0 q 64 #[.int .i64 v.hx, .int .i64 v.hy, .int .i64 v.cp, .int .i64 v.st, .int .i64 v.en] := by rw [← hw0]; exact At.new_ _ _ _ hq.symm
 have hb0 : Below w.heap.size w w0 := by rw [← hw0]; exact (Below.refl _ _).alloc (Nat.le_refl _) _
 have hlk := lookN v vl vt 81 earlyP pb_early l t hl hnum w0 (hL.on hb0) (hT.on hb0) (PassC.ofN (Window.enters Tryz.func81 (by kernel_rfl) rfl) (early_pace _ _ _))
 have hfv : Hid (faultV v l t = if (lookV v l t earlyP).1 = 0 then (0, 0, 0) else lookV v l t earlyP) := Lib.hid rfl
 generalize lookV v l t earlyP = F at *
 obtain ⟨C, p, i⟩ := F
 simp only at hlk
 have v0 := hV.cell 0
 have v1 := hV.cell 1
 have v2 := hV.cell 2
 have v3 := hV.cell 3
 have v4 := hV.cell 4
 simp at v0 v1 v2 v3 v4
 have hw0' := Lib.hid hw0
 have hq' := Lib.hid hq
 obtain ⟨xl, Nl, capl, rfl, -⟩ := hL.opened
 obtain ⟨xt, Nt, capt, rfl, -⟩ := hT.opened
 clear hl hnum hL hT hw0 hq hV
 go_enter Tryz.func52, Tryz.ntmps52
 go_upto_region 1 with fail
 simp only [hq'.out]
 rw [hw0'.out]
 go_wp2_with fail
 refine hlk.mono ?_
 clear hlk v0 v1 v2 v3 v4
 rintro e w1 ⟨rfl, hb1⟩
 have hB1 := hb0.trans (hb1.mono hb0.size)
 have hF := At.new w1 146 #[.int .i64 C, .int .i64 p, .int .i64 i]
 have hB2 := hB1.alloc hB1.size (.cells #[.int .i64 C, .int .i64 p, .int .i64 i] 146)
 clear hb0 hb1 hB1
 cases hc0 : (C == 0)
 · have hc1 : (C != 0) = true := by simpa using hc0
   have hw : Hid (faultV v l t = (C, p, i)) := Lib.hid (by rw [hfv.out, if_neg (by simpa using hc0)])
   have hne : Hid (C ≠ 0) := Lib.hid (by simpa using hc0)
   have hF' := Lib.hid hF
   clear hF
   go_wp2
   go_ret
   exact ⟨⟨_, rfl, .inr ⟨by rw [hw.out]; exact hne.out, _, rfl, by rw [hw.out]; exact hF'.out⟩⟩, hB2⟩
 · have hc1 : (C != 0) = false := by simpa using hc0
   have hw : Hid (faultV v l t = (0, 0, 0)) := Lib.hid (by rw [hfv.out, if_pos (by simpa using hc0)])
   clear hF
   go_wp2
   go_ret
   exact ⟨⟨_, rfl, .inl ⟨by rw [hw.out], rfl⟩⟩, hB2⟩
end Go.Proofs.YtlbghdiebjldjaaGreatDoor.Feas

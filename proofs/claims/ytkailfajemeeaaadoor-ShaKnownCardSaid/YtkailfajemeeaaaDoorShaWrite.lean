/-
  A text written to a hash: the program's Write.
-/
import Derived.Test.YtkailfajemeeaaaDoorShaBlocks
import Derived.Test.YtkailfajemeeaaaDoorSchedIn
namespace Go.Proofs.YtkailfajemeeaaaDoor.Sha
open Go.RowKit Go.Sort Go.Shelf Go.Proofs.YtkailfajemeeaaaDoor.Mem Go.Proofs.YtkailfajemeeaaaDoor.Route
set_option linter.unusedVariables false

attribute [local go_sem] Oper.semAt_some

theorem wpQuiet_load_part {P : Program} {ops : Array Oper} {C : World → Prop} {Q : Act → Prop} {a : Act} {o : Oper} {rest : List Oper} (hgd : o.guard = none) (ty : TypeId) (x : Operand) (ho : o.op = .load ty x)
    (g off : Nat) (hx : a.eval x = .pointer (some ⟨g, off, none⟩)) (cs : List Value) (hc : ∀ w, C w → ∀ j v, cs[j]? = some v → w.cell? ⟨g, off + j, none⟩ = some v) (d : TypeDesc)
    (hu : P.underlying ty = some d) (hd : (match d with | .struct _ | .array _ _ => true | _ => false) = true) (hi : (P.info? ty).map (·.size) = some cs.length)
    (h : wpQuiet P ops C Q rest (a.put o.dst (.agg cs.toArray))) : wpQuiet P ops C Q (o :: rest) a := by
  refine BigFrame.wpQuiet_want (by simp [Region.wanted, hgd]) fun K hK => ⟨.agg cs.toArray, fun w hw => ?_, hK _ h⟩
  unfold Oper.quietAt execOp
  simp only [ho, hx, Instr.loadAt, Instr.sureAddr, Sem.run_bind, Sem.run_pure, Result.andThen_ok, run_load_part w g off ty cs d (hc w hw) hu hd hi]
  exact ⟨rfl, rfl⟩

open Go.Sort Go.RowKit in
/-- A drawn region within a round: its head quiet, its tail forced. -/
theorem round_region_tail {lr m : Nat} {P : Program} {l : List Oper} {id : Nat} {Q : Exit → Act → World → Prop} {a : Act} {w : World} (n : Nat) (hm : P.follows .mixedOrders = true) (hB : Region.lexB .any (l.take n).toArray = true) (hT : Tail.okB l n = true) (hd : (l.all Sched.noDefer) = true) (hO : ¬ LetsOut Q)
    (h : wpQuiet P (l.take n).toArray (fun w' => ∃ p : Regrown, w' = grow (redrawn w p.d) p.os) (fun a' => ∀ w', (∃ p : Regrown, w' = grow (redrawn w p.d) p.os) → wpList P l.toArray Q (l.drop n) a' w') (l.take n) a) : (Code.region id l.toArray true).wpIn (Fence.wide.inRound lr) m P Q a w := by
  have hk := Tail.ok_of hT
  simp only [Region.lexB, Bool.and_eq_true] at hB
  have hlen : (l.take n).length = n := by simp; have := hk.lt; omega
  have h1 := wpAnyQ_lex (P := P) (C := fun w' => ∃ p : Regrown, w' = grow (redrawn w p.d) p.os) (md := .any) (ops := (l.take n).toArray) hB.1 (l.take n) 0 (Array.replicate n false) a (by simp) (by simpa [hlen] using hB.2) h
  refine wpIn_region_any hm (Sched.wpAnyIn_of (fun o ho => List.all_eq_true.1 hd o (by simpa using ho)) hO _ _ _ _ ?_)
  have h2 := Tail.tail_any (P := P) (C := fun w' => ∃ p : Regrown, w' = grow (redrawn w p.d) p.os) (Q := Q) hk (Qa := fun a' => ∀ w', (∃ p : Regrown, w' = grow (redrawn w p.d) p.os) → wpList P l.toArray Q (l.drop n) a' w') (fun a w hw h => h w hw) (l.take n).length (Array.replicate n false) (Array.replicate l.length false) a { w with drawn := w.drawn + 1 } ⟨⟨w.drawn + 1, #[]⟩, by rw [grow_empty]; rfl⟩
    ⟨by simp, by simp, fun j hj => by have := hk.lt; rw [Array.getElem?_replicate, Array.getElem?_replicate, if_pos hj, if_pos (by omega)], fun j h1 h2 => by simp [h2], fun j o hj ht => by rw [Array.getElem?_replicate] at ht; split at ht <;> cases ht⟩ (by simp [hlen]) h1
  rw [hlen, show n + (l.length - n) = l.length by have := hk.lt; omega] at h2
  simpa using h2
theorem off_out {R : World → Prop} : ¬ LetsOut (offEndS R) := fun ⟨a, w, h⟩ => h
theorem inBlock_out {k : Nat} {Q : Exit → Act → World → Prop} (h : ¬ LetsOut Q) : ¬ LetsOut (Exit.inBlock k Q) := fun ⟨a, w, hh⟩ => h ⟨a, w, hh⟩

theorem blocks_any (g : Nat) (t : ByteArray) (w : World) :
    Calls Tryd.prog 19 #[.pointer (some ⟨g, 0, none⟩), .string t] w fun e w' =>
      e = .returned (.func (.func 27) #[] #[.pointer (some ⟨w.heap.size + 1, 0, none⟩), .pointer (some ⟨w.heap.size, 0, none⟩)]) ∧
      (w.alloc (.cells #[.pointer (some ⟨g, 0, none⟩)] 28)).alloc (.cells #[.string t] 9) = w' := by
  go_enter Tryd.func19, Tryd.ntmps19
  go_wp2
  go_ret
  exact ⟨rfl, rfl⟩
theorem str_bytes (t : ByteArray) : strOf (bytesOf t) = t := by
  unfold strOf bytesOf
  rw [List.map_map, show (UInt8.ofNat ∘ UInt8.toNat) = id from funext fun x => by simp, List.map_id]
theorem PreB.stays {w : World} {g bt bh q k : Nat} {new : List Nat} (hg : g < w.heap.size) (ht : bt < w.heap.size) (hh : bh < w.heap.size) : Stays w.heap.size (PreB w g bt bh new q k) := by
  rintro X Y row ⟨h1, h2⟩ hgr hr
  exact ⟨h1, h2.stays hgr (fun r e => by have := hr r e; omega) hg ht hh⟩
theorem Mid.stays {w : World} {g bt bh len : Nat} {new : List Nat} (hg : g < w.heap.size) (ht : bt < w.heap.size) (hh : bh < w.heap.size) : Stays w.heap.size (Mid w g bt bh new len) := by
  rintro X Y row ⟨part, h1, h2, h3, h4⟩ hgr hr
  exact ⟨part, h1, h2, h3, h4.stays hgr (fun r e => by have := hr r e; omega) hg ht hh⟩
theorem PostB.stays {w : World} {g bt bh q k : Nat} {new : List Nat} (hg : g < w.heap.size) (ht : bt < w.heap.size) (hh : bh < w.heap.size) : Stays w.heap.size (PostB w g bt bh new q k) := by
  rintro X Y row ⟨len, h1, h2, h3⟩ hgr hr
  exact ⟨len, h1, h2, Mid.stays hg ht hh _ _ _ h3 hgr hr⟩
theorem blk_step (new : List Nat) (j : Nat) : blksS new (j + 1) = blockS (blksS new j) (blkL new j) := rfl
theorem bytes_app {a b : List Nat} (h1 : Bytes a) (h2 : Bytes b) : Bytes (a ++ b) := fun x hx => (List.mem_append.1 hx).elim (h1 x) (h2 x)

theorem write_nil (t : ByteArray) (w : World) : Calls Tryd.prog 12 #[.pointer none, .string t] w fun e w' => (∃ v, e = .returned v) ∧ Below w.heap.size w w' := by
  refine (callsIn_wide (n := 3)).1 ?_
  refine callsIn_of_wp_marks Tryd.func12 rfl trivial ?_ rfl
  simp only [Tryd.ntmps12, List.size_toArray, List.length_cons, List.length_nil, Nat.reduceAdd, Nat.reduceSub, Array.replicate_succ, Array.replicate_zero, List.push_toArray, List.append_toArray, List.nil_append, List.cons_append]
  refine wpIn_wide.2 ?_
  go_wp2
  exact ⟨.tuple #[], by simp [results, Tryd.results12, go_sem], ⟨_, rfl⟩, (Below.refl _ _).alloc (Nat.le_refl _) _⟩

set_option maxRecDepth 100000 in
set_option maxHeartbeats 4000000 in
theorem write_any (g : Nat) (all : List Nat) (t : ByteArray) (w : World) (h : HashAt w g all) (hlen : all.length + t.size < 900000) (hsg : Sg w) (hg1 : g ≠ 0) (hg2 : g ≠ 1) :
    Calls Tryd.prog 12 #[.pointer (some ⟨g, 0, none⟩), .string t] w fun e w' => (∃ v, e = .returned v) ∧ HashAt w' g (all ++ bytesOf t) ∧ w.grownBy w' (some g) := by
  obtain ⟨n, hn⟩ : ∃ n, w.heap.size = n := ⟨_, rfl⟩
  have hgn : g < n := by have := h.inside; omega
  obtain ⟨w2, hw2⟩ : ∃ w2, ((w.alloc (.cells #[.pointer (some ⟨g, 0, none⟩)] 28)).alloc (.cells #[.pointer (some ⟨g, 0, none⟩)] 28)).alloc (.cells #[.string t] 9) = w2 := ⟨_, rfl⟩
  have hs2 : w2.heap.size = n + 3 := by rw [← hw2]; simp [hn]
  have hb2 : Below w.heap.size w w2 := by rw [← hw2]; exact (((Below.refl _ _).alloc (Nat.le_refl _) _).alloc (by simp) _).alloc (by simp; omega) _
  have p0 : At w2 n 28 #[.pointer (some ⟨g, 0, none⟩)] := by rw [← hw2]; exact ((At.new_ w _ _ hn.symm).alloc _).alloc _
  have p1 : At w2 (n + 1) 28 #[.pointer (some ⟨g, 0, none⟩)] := by rw [← hw2]; exact (At.new_ _ _ _ (by simp [hn])).alloc _
  have p2 : At w2 (n + 2) 9 #[.string t] := by rw [← hw2]; exact At.new_ _ _ _ (by simp [hn])
  obtain ⟨new, hnew⟩ : ∃ new, all ++ bytesOf t = new := ⟨_, rfl⟩
  have hbt := bytesOf_length t
  have hnb : Bytes new := by rw [← hnew]; exact bytes_app h.bytes (bytesOf_bytes t)
  have hnl : new.length < 900000 := by rw [← hnew, List.length_append, hbt]; exact hlen
  have hpo : PostB w2 g (n + 2) (n + 1) new (all.length / 64) 0 w2 := by
    obtain ⟨part, q1, q2, q3, q4⟩ := (h.on hb2).at_
    refine ⟨all.length, by rw [← hnew]; simp, rfl, part, q1, q2, ?_, ?_⟩
    · rw [q3, ← hnew, List.take_append_of_le_length (Nat.le_refl _), List.take_of_length_le (Nat.le_refl _)]
      rfl
    · refine ⟨?_, ?_, p1, Rest.refl _ _ _⟩
      · rw [← hnew, blks_app all (bytesOf t) (all.length / 64) (by omega)]
        exact q4
      · rw [← hnew, List.drop_append_of_le_length (Nat.le_refl _), List.drop_of_length_le (Nat.le_refl _), List.nil_append, str_bytes]
        exact p2
  have hgives := blocks_gives w2 g (n + 2) (n + 1) new (all.length / 64) hnb (by omega) (by omega) (by omega) (by omega) (by omega) (by omega) (by omega)
  have hbl := blocks_any g t (w.alloc (.cells #[.pointer (some ⟨g, 0, none⟩)] 28))
  rw [hw2, show (w.alloc (.cells #[.pointer (some ⟨g, 0, none⟩)] 28)).heap.size = n + 1 by simp [hn]] at hbl
  have hsg2 := hsg.on hb2
  obtain ⟨q, hq⟩ : ∃ q, all.length / 64 = q := ⟨_, rfl⟩
  rw [hq] at hpo hgives
  replace hnew := Lib.hid hnew
  replace hn' := Lib.hid hn
  replace hw2 := Lib.hid hw2
  replace hs2 := Lib.hid hs2
  replace hq := Lib.hid hq
  clear hbt h hlen hn
  refine (callsIn_wide (n := 3)).1 ?_
  refine callsIn_of_wp_marks Tryd.func12 rfl trivial ?_ rfl
  simp only [Tryd.ntmps12, List.size_toArray, List.length_cons, List.length_nil, Nat.reduceAdd, Nat.reduceSub, Array.replicate_succ, Array.replicate_zero, List.push_toArray, List.append_toArray, List.nil_append, List.cons_append]
  refine wpIn_wide.2 ?_
  go_wp2_with fail
  refine hbl.mono ?_
  clear hbl
  rintro e w3 ⟨rfl, rfl⟩
  go_wp2_with fail
  refine (wpIn_wide (n := 3)).1 ?_
  refine rangesS (gf := 27) (lb := #[.pointer (some ⟨n + 2, 0, none⟩), .pointer (some ⟨n + 1, 0, none⟩)]) rfl (enters_of Tryd.func27 (by kernel_rfl) rfl) (encs := encB) (xs := (List.range (new.length / 64 - q)).map fun k => blkL new (q + k)) (fun _ => rfl)
    (Pre := PreB w2 g (n + 2) (n + 1) new q) (Post := PostB w2 g (n + 2) (n + 1) new q) (End := Mid w2 g (n + 2) (n + 1) new new.length)
    (fun k => PreB.stays (by have := hs2.out; omega) (by have := hs2.out; omega) (by have := hs2.out; omega)) (fun k => PostB.stays (by have := hs2.out; omega) (by have := hs2.out; omega) (by have := hs2.out; omega)) (Mid.stays (by have := hs2.out; omega) (by have := hs2.out; omega) (by have := hs2.out; omega)) hpo hgives ?round ?done
  case round =>
    rintro l k x W hx hW hP
    dsimp only [encB]
    rw [List.getElem?_map] at hx
    obtain ⟨k', hk', hxx⟩ := Option.map_eq_some_iff.1 hx
    obtain ⟨hkr, hkk⟩ := List.getElem?_eq_some_iff.1 hk'
    simp at hkk hkr
    subst hkk
    have hxl : x.length = 64 := by rw [← hxx]; unfold blkL; simp; omega
    have hxb : Bytes x := fun y hy => hnb y (by rw [← hxx] at hy; exact List.mem_of_mem_drop (List.mem_of_mem_take hy))
    have hz0 : AtL (W.alloc (.cells (padB 64 []).toArray 48)) W.heap.size 48 (padB 64 []) := AtL.new W _ _
    have hIx := Lib.hid (show (Tryd.prog.info? 48).map (·.size) = some (x.map u8V).length by rw [List.length_map, hxl]; kernel_rfl)
    have hpx : putL (padB 64 []) 0 (x.map u8V) = x.map u8V := by
      unfold putL
      rw [List.drop_eq_nil_of_le (by rw [padB_length (Nat.zero_le _)]; simp [hxl])]
      simp
    have hold := Lib.hid (show 0 + (x.map u8V).length ≤ (padB 64 []).length by rw [padB_length (Nat.zero_le _)]; simp [hxl])
    gi_wp2_with (refine wpListIn_store_part rfl 48 _ _ rfl W.heap.size 0 (x.map u8V) rfl rfl 48 (padB 64 []) hz0 hIx.out hold.out one_u8 ?_)
    have hX0 := hz0.row (x.map u8V)
    rw [← hpx] at hX0
    refine ⟨⟨rfl, rfl, rfl, by simp, fun j hj _ => (setRow_other _ _ _ _ (by omega)).trans (Below.heap_alloc W _ j hj)⟩, fun V hVg hVs => ?_⟩
    have hPV : PreB w2 g (n + 2) (n + 1) new q k V := by
      refine PreB.stays (by have := hs2.out; omega) (by have := hs2.out; omega) (by have := hs2.out; omega) _ _ (some (w2.heap.size + 1)) (PreB.stays (by have := hs2.out; omega) (by have := hs2.out; omega) (by have := hs2.out; omega) _ _ none hP ?_ (fun r e => by cases e)) hVg (fun r e => by cases e; exact .inr rfl)
      exact ⟨rfl, rfl, rfl, by simp, fun j hj _ => (setRow_other _ _ _ _ (by omega)).trans (Below.heap_alloc W _ j hj)⟩
    have hXV : AtL V W.heap.size 48 (x.map u8V) := by
      rw [hpx] at hX0
      have := (hVg.block W.heap.size (by rw [hpx]; exact hX0.inside) (by simp; omega))
      rw [hpx] at this
      exact this.trans hX0
    obtain ⟨m, hm⟩ : ∃ m, W.heap.size = m := ⟨_, rfl⟩
    rw [hm] at hXV
    simp only [hm]
    have hmV : m < V.heap.size := hXV.inside
    have hm2 : n + 5 ≤ m := by have := hs2.out; omega
    clear hX0 hVg hVs hz0 hIx hpx hold hP hx hk' hW hm
    obtain ⟨hP1, hP2⟩ := hPV
    obtain ⟨s, hs⟩ : ∃ s, blksS new (q + k) = s := ⟨_, rfl⟩
    rw [hs, hxx] at hP2
    have hpV : At V n 28 #[.pointer (some ⟨g, 0, none⟩)] := (hP2.rest.block n (by have := hs2.out; omega) (by omega) (by omega)).trans p0
    have hsgV : Sg V := hsg2.same (hP2.rest.block _ (hsg2.posh) (Ne.symm hg1) (by have := hsg.posh; have := hn'.out; omega)) (hP2.rest.block _ (hsg2.posk) (Ne.symm hg2) (by have := hsg.posk; have := hn'.out; omega))
    have k0 := cell_regrown (show V.cell? ⟨n, 0, none⟩ = some (.pointer (some ⟨g, 0, none⟩)) by simpa using hpV.cell 0)
    have hcall := fun d os => Calls.regrown_of (behind_any s x hxl hxb (grow (redrawn V d) os) (hsgV.on (below_regrown V d os)))
    have hcS : ∀ X, (∃ p : Regrown, X = grow (redrawn V p.d) p.os) → ∀ j v, (stL s)[j]? = some v → X.cell? ⟨g, 0 + j, none⟩ = some v := by
      rintro X ⟨p, rfl⟩ j v hv
      exact cell_regrown (hP2.hash.get (hash_stAt j v hv)) p.d p.os
    have hcX : ∀ X, (∃ p : Regrown, X = grow (redrawn V p.d) p.os) → ∀ j v, (x.map u8V)[j]? = some v → X.cell? ⟨m, 0 + j, none⟩ = some v := by
      rintro X ⟨p, rfl⟩ j v hv
      rw [Nat.zero_add]
      exact cell_regrown (hXV.get hv) p.d p.os
    have hIs := Lib.hid (show (Tryd.prog.info? 46).map (·.size) = some (stL s).length by kernel_rfl)
    have hIx := Lib.hid (show (Tryd.prog.info? 48).map (·.size) = some (x.map u8V).length by rw [List.length_map, hxl]; kernel_rfl)
    have hn2 := hn'.out
    gi_upto_region 4 with fail
    simp only [Act.put, hn2]
    refine round_region_tail 9 (by kernel_rfl) (by kernel_rfl) (by kernel_rfl) (by kernel_rfl) (inBlock_out off_out) ?_
    simp only [List.take_succ_cons, List.take_zero, List.drop_succ_cons, List.drop_zero]
    repeat (first | (refine wpQuiet_load_part rfl 46 _ rfl g 0 rfl (stL s) hcS _ Tryd.underlying46 rfl hIs.out ?_; go_simp) | (refine wpQuiet_load_part rfl 48 _ rfl m 0 rfl (x.map u8V) hcX _ Tryd.underlying48 rfl hIx.out ?_; go_simp) | go_big_quiet_step (exact hcall _ _))
    refine wpQuiet_nil ?_
    intro pq
    obtain ⟨dq, osq⟩ := pq
    dsimp only
    have hgr := below_regrown V dq osq
    have hgn2 : V.grownBy (grow (redrawn V dq) osq) none := ⟨hgr.os, hgr.tape, hgr.output, hgr.size, fun j hj _ => hgr.block j hj⟩
    have hSt := hP2.stays hgn2 (fun r e => by cases e) (by have := hs2.out; omega) (by have := hs2.out; omega) (by have := hs2.out; omega)
    have hHd : HeldS w2.heap.size V (grow (redrawn V dq) osq) := HeldS.grown hgn2 (by have := hs2.out; omega) (fun r e => by cases e)
    clear k0 hcall hcS hcX hIx hgr hgn2 hP2 hXV
    generalize grow (redrawn V dq) osq = wt at *
    have hxB : blksS new (q + k + 1) = blockS s x := by rw [blk_step, hs, hxx]
    have hSn : PostB w2 g (n + 2) (n + 1) new q (k + 1) (wt.setRow g (putL (hashL s x (64 * (q + k + 1))) 0 (stL (blockS s x))).toArray) := by
      refine ⟨64 * (q + k + 1), hP1, by omega, x, hxl, hxb, ?_, ?_⟩
      · rw [show 64 * (q + k + 1) % 64 = 0 by omega, show 64 * (64 * (q + k + 1) / 64) = 64 * (q + k + 1) by omega, List.drop_eq_nil_of_le (by simp; omega)]
        rfl
      · rw [show 64 * (q + k + 1) / 64 = q + k + 1 by omega, hxB, hash_state]
        exact ⟨hSt.hash.row _, At.rowFar hSt.text (by omega) _, At.rowFar hSt.hptr (by omega) _, hSt.rest.grown ⟨rfl, rfl, rfl, by simp, fun j _ hj => setRow_other _ _ _ _ (fun e => hj (by rw [e]))⟩ (fun r e => by cases e; exact .inl rfl)⟩
    have hHn : HeldS w2.heap.size V (wt.setRow g (putL (hashL s x (64 * (q + k + 1))) 0 (stL (blockS s x))).toArray) :=
      hHd.trans ⟨by simp, setRow_other _ _ _ _ (by have := hs2.out; omega), setRow_other _ _ _ _ (by have := hs2.out; omega)⟩
    have hI8 := Lib.hid (show 0 + (stL (blockS s x)).length ≤ (hashL s x (64 * (q + k + 1))).length by rw [hashL_length hxl]; show 0 + 8 ≤ 73; decide)
    have hIs2 := Lib.hid (show (Tryd.prog.info? 46).map (·.size) = some (stL (blockS s x)).length by kernel_rfl)
    have hHash := hSt.hash
    replace hSn := Lib.hid hSn
    replace hHn := Lib.hid hHn
    clear hSt hHd hxB hpV hsgV
    go_wp2_with (refine wpList_store_part rfl 46 _ _ rfl g 0 (stL (blockS s x)) rfl rfl 51 (hashL s x (64 * (q + k + 1))) hHash hIs2.out hI8.out stL_one ?_)
    exact ⟨hSn.out, hHn.out⟩
  case done =>
    rintro W hW ⟨part, q1, q2, q3, hE⟩ hD
    have hfin : HashAt (W.putObj w2.heap.size (.deferred none)) g (all ++ bytesOf t) := by
      rw [hnew.out]
      refine ⟨hnb, part, q1, q2, ?_, ?_⟩
      · rw [q3, List.take_of_length_le (Nat.le_refl _)]
        rfl
      · exact (World.putObj_heap_other (by have := hs2.out; omega)).trans hE.hash
    have hgrow : w.grownBy (W.putObj w2.heap.size (.deferred none)) (some g) := by
      have hr := hE.rest
      refine ⟨hr.os.trans hb2.os, hr.tape.trans hb2.tape, hr.output.trans hb2.output, by have := hr.size; have := hb2.size; simp; omega, fun j hj hne => ?_⟩
      have hj2 : j < n := by have := hn'.out; omega
      have := hs2.out
      exact (World.putObj_heap_other (by omega)).trans ((hr.block j (by omega) (by simpa using hne) (by omega)).trans (hb2.block j hj))
    replace hfin := Lib.hid hfin
    replace hgrow := Lib.hid hgrow
    clear hE
    go_wp2
    refine ⟨by simp, .inl ⟨_, _, rfl, run_takeDeferred hD, ?_⟩⟩
    exact ⟨.tuple #[], by simp [results, Tryd.results12, go_sem], ⟨_, rfl⟩, hfin.out, hgrow.out⟩

end Go.Proofs.YtkailfajemeeaaaDoor.Sha

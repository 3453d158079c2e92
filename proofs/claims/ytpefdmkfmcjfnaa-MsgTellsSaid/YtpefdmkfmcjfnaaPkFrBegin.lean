import Derived.Test.YtpefdmkfmcjfnaaPkMsRLay
import Derived.RangeFuncNested
import Derived.RangeFuncBound
import Derived.Shelf.RegionOpen
import Derived.LoopIn
import Derived.LoopNIn

namespace Go.Proofs.Ytpefdmkfmcjfnaa.Fr
open Go.RowKit Go.Sort Go.Proofs.Ytpefdmkfmcjfnaa.Mem Go.Proofs.Ytpefdmkfmcjfnaa.Route Go.Proofs.Ytpefdmkfmcjfnaa.Oct
set_option linter.unusedVariables false
theorem copy_front {P : Program} (w : World) (dT sT ty e : TypeId) (g k dCap : Nat) (t : TypeId) (cur : List Value) (l : Bs) (hu : P.underlying dT = some (.slice e)) (hs : (P.info? e).map (·.size) = some 1)
 (hg : AtL w g t cur) (hk : k ≤ l.length) (hc : cur.length = k) :
 (Builtin.copy_ #[dT, sT] ty #[.slice (some ⟨g, 0, none⟩) k dCap, .string (str l)]).run P w = .ok (goInt k) (w.setRow g ((l.take k).map u8V).toArray) := by
 have hlen : ((l.take k).map u8V).length = k := by simp; omega
 have hst := run_storeCells_at P g 0 t ((l.take k).map u8V) 0 cur.toArray w hg (by simp; omega) one_u8
 have hn : Nat.min (str l).size k = k := by rw [str_size]; exact Nat.min_eq_right hk
 have hcells : List.take k (List.map (fun b : UInt8 => Value.int .u8 (b.toNat : Int)) (str l).data.toList) = (l.take k).map u8V := by
  rw [← List.map_take]
  rfl
 simp only [Nat.add_zero] at hst
 cases hq : P.info? e with
 | none => simp [hq] at hs
 | some i =>
  simp [Builtin.copy_, run_underlying hu, Builtin.lenOf, Builtin.firstCells, sizeOf, typeInfo, hq, hn]
  rw [hcells]
  simp only [List.length_map] at hst
  rw [hst]
  have hd : cur.drop (min k l.length) = [] := List.drop_eq_nil_of_le (by omega)
  simp [hd]
theorem i64_or (b c : UInt8) : bits .or .i64 ((b.toNat : Int) * 256) (c.toNat : Int) = (big b c : Int) := by
 have hb := b.toNat_lt
 have hc := c.toNat_lt
 have hx : b.toNat * 256 ||| c.toNat = big b c := by
  rw [show b.toNat * 256 = b.toNat <<< 8 by rw [Nat.shiftLeft_eq], ← Nat.shiftLeft_add_eq_or_of_lt (by omega), Nat.shiftLeft_eq, big]
  omega
 rw [show (b.toNat : Int) * 256 = ((b.toNat * 256 : Nat) : Int) by omega]
 show IntKind.i64.wrap ((BitVec.ofInt 64 ((b.toNat * 256 : Nat) : Int) ||| BitVec.ofInt 64 (c.toNat : Int)).toNat : Int) = _
 rw [BitVec.toNat_or, ofInt_u64 _ (by omega), ofInt_u64 _ (by omega), hx, IntKind.wrap_i64]
 have := big_lt b c
 omega
theorem ret_int {a b : Int} (h : a = b) : Ending.returned (.int .i64 a) = .returned (.int .i64 b) := by rw [h]
set_option maxRecDepth 100000 in
set_option maxHeartbeats 4000000 in
theorem length_any (a b c : UInt8) (w : World) :
 Calls Try.prog 72 #[.agg #[.int .u8 (a.toNat : Int), .int .u8 (b.toNat : Int), .int .u8 (c.toNat : Int)]] w fun e w' => e = .returned (.int .i64 (big b c : Int)) ∧ Below w.heap.size w w' := by
 have hb7 : (b.toNat : Int) ≤ 255 := by have := b.toNat_lt; omega
 have hc7 : (c.toNat : Int) ≤ 255 := by have := c.toNat_lt; omega
 go_enter Try.func72, Try.ntmps72
 go_wp2
 go_ret
 exact ⟨ret_int (i64_or b c), (Below.refl _ _).alloc (Nat.le_refl _) _⟩
def fdV : Option Fd → Value
 | some f => .agg #[.int .i64 (f.k : Int), .string (str f.body), .string (str f.rest)]
 | none => .agg #[.int .i64 0, .string ⟨#[]⟩, .string ⟨#[]⟩]
theorem res_fd {fn : Func} {p k : Tmp} (h : fn.results = #[.cell p 138, .tmp k]) {tmps : Array Value} {w : World} {g : Nat} {x0 x1 x2 u : Value} (hp : tmps.getD p undef = .pointer (some ⟨g, 0, none⟩)) (hk : tmps.getD k undef = u)
 (hA : AtL w g 138 [x0, x1, x2]) :
 (results fn tmps).run Try.prog w = .ok (.tuple #[.agg #[x0, x1, x2], u]) w := by
 have hp' : tmps[p]?.getD undef = .pointer (some ⟨g, 0, none⟩) := by simpa using hp
 have hk' : tmps[k]?.getD undef = u := by simpa using hk
 have c0 := hA.cell 0
 have c1 := hA.cell 1
 have c2 := hA.cell 2
 simp at c0 c1 c2
 simp only [results, h]
 go_simp
 try rw [hk']
theorem ret_fd {F : Option Fd} {v : Value} {b : Bool} (h : fdV F = v) (h2 : F.isSome = b) : Ending.returned (.tuple #[v, .bool b]) = .returned (.tuple #[fdV F, .bool F.isSome]) := by rw [h, h2]
set_option maxRecDepth 100000 in
set_option maxHeartbeats 4000000 in
theorem begin_three (a b c : UInt8) (t : Bs) (ht : t.length + 3 ≤ 9223372036854775807) (w : World) :
 Calls Try.prog 71 #[.string (str (a :: b :: c :: t))] w fun e w' => e = .returned (.tuple #[fdV (front (a :: b :: c :: t)), .bool (front (a :: b :: c :: t)).isSome]) ∧ Below w.heap.size w w' := by
 obtain ⟨hz, h0, h1, h2, hc, hf⟩ := told a b c t
 have hsz : (Try.prog.info? 5).map (·.size) = some 1 := by kernel_rfl
 have hA0 := (AtL.new w 138 [.int .i64 0, .string ⟨#[]⟩, .string ⟨#[]⟩]).alloc (.cells #[.int .u8 0, .int .u8 0, .int .u8 0] 100)
 have hH0 := AtL.new (w.alloc (.cells #[.int .i64 0, .string ⟨#[]⟩, .string ⟨#[]⟩] 138)) 100 [.int .u8 0, .int .u8 0, .int .u8 0]
 have hB0 : Below w.heap.size w ((w.alloc (.cells #[.int .i64 0, .string ⟨#[]⟩, .string ⟨#[]⟩] 138)).alloc (.cells #[.int .u8 0, .int .u8 0, .int .u8 0] 100)) := ((Below.refl _ _).alloc (Nat.le_refl _) _).alloc (by simp) _
 rw [World.size_alloc] at hH0
 obtain ⟨F, hF⟩ : ∃ F, front (a :: b :: c :: t) = F := ⟨_, rfl⟩
 rw [hF]
 replace hF := Lib.hid hF
 go_enter Try.func71, Try.ntmps71
 go_upto_region 2 with fail
 generalize ((w.alloc (.cells #[.int .i64 0, .string ⟨#[]⟩, .string ⟨#[]⟩] 138)).alloc (.cells #[.int .u8 0, .int .u8 0, .int .u8 0] 100)) = w1 at *
 have hcp := copy_front (P := Try.prog) w1 26 9 3 5 (w.heap.size + 1) 3 3 100 _ (a :: b :: c :: t) Try.underlying26 hsz hH0 (by simp) rfl
 have hA1 := hA0.rowFar (b := w.heap.size + 1) (by omega) (((a :: b :: c :: t).take 3).map u8V).toArray
 have hH1 := hH0.row (((a :: b :: c :: t).take 3).map u8V)
 have hB1 := below_row hB0 (Nat.le_succ _) (((a :: b :: c :: t).take 3).map u8V).toArray
 generalize w1.setRow (w.heap.size + 1) (((a :: b :: c :: t).take 3).map u8V).toArray = w2 at *
 have c0 : w2.cell? ⟨w.heap.size + 1, 0, none⟩ = some (.int .u8 (a.toNat : Int)) := hH1.get rfl
 have c1 : w2.cell? ⟨w.heap.size + 1, 1, none⟩ = some (.int .u8 (b.toNat : Int)) := hH1.get rfl
 have c2 : w2.cell? ⟨w.heap.size + 1, 2, none⟩ = some (.int .u8 (c.toNat : Int)) := hH1.get rfl
 go_wp2_with (at_builtin; refine Lib.wpList_copy_run _ rfl _ _ _ _ rfl _ _ rfl rfl hcp ?_)
 refine (length_any a b c _).mono ?_
 rintro e w3 ⟨rfl, hb3⟩
 have hA3 := hA1.on hb3
 have hH3 := hH1.on hb3
 have hB3 := hB1.trans (hb3.mono hB1.size)
 clear hA1 hH1 hb3 hB1 c0 c1 c2 hcp hA0 hH0 hB0 w1
 have hN6 : (big b c : Int) ≤ 65535 := by have := big_lt b c; omega
 have ha7 : (a.toNat : Int) ≤ 255 := by have := a.toNat_lt; omega
 replace hc := hc (big b c)
 replace hf := hf (big b c)
 by_cases hl : big b c ≤ t.length
 · replace hF := Lib.hid (show F = some ⟨a.toNat, t.take (big b c), t.drop (big b c)⟩ by rw [← hF.out]; simp only [front]; rw [if_pos hl])
   generalize str (a :: b :: c :: t) = S at *
   generalize big b c = N at *
   have hl' : ¬ ((t.length : Int) < (N : Int)) := by omega
   have hl2 : ¬ ((t.length : Int) + 3 < 3 + (N : Int)) := by omega
   have f0 := hA3.free 0
   have f1 := hA3.free 1
   have f2 := hA3.free 2
   have g0 : w3.cell? ⟨w.heap.size, 0, none⟩ = some (.int .i64 0) := hA3.get rfl
   have g1 : w3.cell? ⟨w.heap.size, 1, none⟩ = some (.string ⟨#[]⟩) := hA3.get rfl
   have g2 : w3.cell? ⟨w.heap.size, 2, none⟩ = some (.string ⟨#[]⟩) := hA3.get rfl
   have c0 : w3.cell? ⟨w.heap.size + 1, 0, none⟩ = some (.int .u8 (a.toNat : Int)) := hH3.get rfl
   clear h0 h1 h2
   go_upto_region 7 with fail
   refine Tail.wp_region_below_tail 10 (by kernel_rfl) (by kernel_rfl) (by kernel_rfl) ?_
   simp only [List.take_succ_cons, List.take_zero, List.drop_succ_cons, List.drop_zero]
   have k0 := cell_regrown c0
   repeat (go_big_quiet_step (fail))
   refine wpQuiet_nil ?_
   intro _ hw'
   obtain ⟨⟨dq, osq⟩, hw''⟩ := hw'
   subst hw''
   have hgr := below_regrown w3 dq osq
   have hA4 := hA3.on hgr
   have hB4 := hB3.trans (hgr.mono hB3.size)
   clear hA3 hH3 hB3 hgr k0 c0 f0 f1 f2 g0 g1 g2
   generalize grow (redrawn w3 dq) osq = w4 at *
   have f0 := hA4.free 0
   have f1 := hA4.free 1
   have f2 := hA4.free 2
   have g0 : w4.cell? ⟨w.heap.size, 0, none⟩ = some (.int .i64 0) := hA4.get rfl
   have g1 : w4.cell? ⟨w.heap.size, 1, none⟩ = some (.string ⟨#[]⟩) := hA4.get rfl
   have g2 : w4.cell? ⟨w.heap.size, 2, none⟩ = some (.string ⟨#[]⟩) := hA4.get rfl
   go_wp2
   have hA5 : AtL (((w4.setCell ⟨w.heap.size, 0, none⟩ (.int .i64 (a.toNat : Int))).setCell ⟨w.heap.size, 1, none⟩ (.string (str (t.take N)))).setCell ⟨w.heap.size, 2, none⟩ (.string (str (t.drop N)))) w.heap.size 138 [.int .i64 (a.toNat : Int), .string (str (t.take N)), .string (str (t.drop N))] := ((hA4.put 0 _).put 1 _).put 2 _
   refine bodyPost_ret (res_fd rfl rfl rfl hA5) rfl ?_
   exact ⟨ret_fd (by rw [hF.out]; rfl) (by rw [hF.out]; rfl), below_set (below_set (below_set hB4 (Nat.le_refl _) _ _) (Nat.le_refl _) _ _) (Nat.le_refl _) _ _⟩
 · replace hF := Lib.hid (show F = none by rw [← hF.out]; simp only [front]; rw [if_neg hl])
   generalize str (a :: b :: c :: t) = S at *
   generalize big b c = N at *
   have hl' : (t.length : Int) < (N : Int) := by omega
   have hl2 : (t.length : Int) + 3 < 3 + (N : Int) := by omega
   have f0 := hA3.free 0
   have f1 := hA3.free 1
   have f2 := hA3.free 2
   have g0 : w3.cell? ⟨w.heap.size, 0, none⟩ = some (.int .i64 0) := hA3.get rfl
   have g1 : w3.cell? ⟨w.heap.size, 1, none⟩ = some (.string ⟨#[]⟩) := hA3.get rfl
   have g2 : w3.cell? ⟨w.heap.size, 2, none⟩ = some (.string ⟨#[]⟩) := hA3.get rfl
   clear h0 h1 h2
   go_wp2
   have hA5 : AtL (((w3.setCell ⟨w.heap.size, 0, none⟩ (.int .i64 0)).setCell ⟨w.heap.size, 1, none⟩ (.string ⟨#[]⟩)).setCell ⟨w.heap.size, 2, none⟩ (.string ⟨#[]⟩)) w.heap.size 138 [.int .i64 0, .string ⟨#[]⟩, .string ⟨#[]⟩] := ((hA3.put 0 _).put 1 _).put 2 _
   refine bodyPost_ret (res_fd rfl rfl rfl hA5) rfl ?_
   exact ⟨ret_fd (by rw [hF.out]; rfl) (by rw [hF.out]; rfl), below_set (below_set (below_set hB3 (Nat.le_refl _) _ _) (Nat.le_refl _) _ _) (Nat.le_refl _) _ _⟩
set_option maxRecDepth 100000 in
set_option maxHeartbeats 4000000 in
theorem begin_any (s : Bs) (hs : s.length ≤ 9223372036854775807) (w : World) :
 Calls Try.prog 71 #[.string (str s)] w fun e w' => e = .returned (.tuple #[fdV (front s), .bool (front s).isSome]) ∧ Below w.heap.size w w' := by
 by_cases h3 : s.length < 3
 · obtain ⟨F, hF⟩ : ∃ F, front s = F := ⟨_, rfl⟩
   have hN := front_short h3
   rw [hF] at hN ⊢
   clear hF
   replace hN := Lib.hid hN
   have h4 : (s.length : Int) < 3 := by omega
   have hsz : (Try.prog.info? 5).map (·.size) = some 1 := by kernel_rfl
   have hA0 := (AtL.new w 138 [.int .i64 0, .string ⟨#[]⟩, .string ⟨#[]⟩]).alloc (.cells #[.int .u8 0, .int .u8 0, .int .u8 0] 100)
   have hH0 := AtL.new (w.alloc (.cells #[.int .i64 0, .string ⟨#[]⟩, .string ⟨#[]⟩] 138)) 100 [.int .u8 0, .int .u8 0, .int .u8 0]
   have hB0 : Below w.heap.size w ((w.alloc (.cells #[.int .i64 0, .string ⟨#[]⟩, .string ⟨#[]⟩] 138)).alloc (.cells #[.int .u8 0, .int .u8 0, .int .u8 0] 100)) := ((Below.refl _ _).alloc (Nat.le_refl _) _).alloc (by simp) _
   rw [World.size_alloc] at hH0
   go_enter Try.func71, Try.ntmps71
   go_upto_region 2 with fail
   generalize ((w.alloc (.cells #[.int .i64 0, .string ⟨#[]⟩, .string ⟨#[]⟩] 138)).alloc (.cells #[.int .u8 0, .int .u8 0, .int .u8 0] 100)) = w1 at *
   have hcp := copy_text (P := Try.prog) w1 26 9 3 5 (w.heap.size + 1) 3 3 s 100 Try.underlying26 hsz hH0 (by omega)
   have hA1 := hA0.rowFar (b := w.heap.size + 1) (by omega) (s.map u8V ++ List.replicate (3 - s.length) (Value.int .u8 0)).toArray
   have hB1 := below_row hB0 (Nat.le_succ _) (s.map u8V ++ List.replicate (3 - s.length) (Value.int .u8 0)).toArray
   generalize w1.setRow (w.heap.size + 1) (s.map u8V ++ List.replicate (3 - s.length) (Value.int .u8 0)).toArray = w3 at *
   have f0 := hA1.free 0
   have f1 := hA1.free 1
   have f2 := hA1.free 2
   have g0 : w3.cell? ⟨w.heap.size, 0, none⟩ = some (.int .i64 0) := hA1.get rfl
   have g1 : w3.cell? ⟨w.heap.size, 1, none⟩ = some (.string ⟨#[]⟩) := hA1.get rfl
   have g2 : w3.cell? ⟨w.heap.size, 2, none⟩ = some (.string ⟨#[]⟩) := hA1.get rfl
   go_wp2_with (at_builtin; refine Lib.wpList_copy_run _ rfl _ _ _ _ rfl _ _ rfl rfl hcp ?_)
   have hA5 : AtL (((w3.setCell ⟨w.heap.size, 0, none⟩ (.int .i64 0)).setCell ⟨w.heap.size, 1, none⟩ (.string ⟨#[]⟩)).setCell ⟨w.heap.size, 2, none⟩ (.string ⟨#[]⟩)) w.heap.size 138 [.int .i64 0, .string ⟨#[]⟩, .string ⟨#[]⟩] := ((hA1.put 0 _).put 1 _).put 2 _
   refine bodyPost_ret (res_fd rfl rfl rfl hA5) rfl ?_
   exact ⟨ret_fd (by rw [hN.out]; rfl) (by rw [hN.out]; rfl), below_set (below_set (below_set hB1 (Nat.le_refl _) _ _) (Nat.le_refl _) _ _) (Nat.le_refl _) _ _⟩
 · obtain ⟨a, b, c, t, rfl⟩ := three_of h3
   exact begin_three a b c t (by simpa using hs) w
theorem frames_any (s : Bs) (w : World) :
 Calls Try.prog 68 #[.string (str s)] w fun e w' => e = .returned (.func (.func 70) #[] #[.pointer (some ⟨w.heap.size, 0, none⟩)]) ∧ w.alloc (.cells #[.string (str s)] 9) = w' := by
 go_enter Try.func68, Try.ntmps68
 go_wp2
 go_ret
 exact ⟨rfl, rfl⟩
end Go.Proofs.Ytpefdmkfmcjfnaa.Fr
namespace Go.Proofs.Ytpefdmkfmcjfnaa.Seq
open Go.RowKit
set_option linter.unusedVariables false
structure Kept (B : Nat) (W W' : World) : Prop where
 size : W.heap.size ≤ W'.heap.size
 same : ∀ k, B ≤ k → k < W.heap.size → W'.heap[k]? = W.heap[k]?
theorem Kept.refl (B : Nat) (W : World) : Kept B W W := ⟨Nat.le_refl _, fun _ _ _ => rfl⟩
theorem Kept.trans {B : Nat} {X Y Z : World} (h : Kept B X Y) (k : Kept B Y Z) : Kept B X Z :=
 ⟨Nat.le_trans h.size k.size, fun i hB hi => (k.same i hB (Nat.lt_of_lt_of_le hi h.size)).trans (h.same i hB hi)⟩
theorem Kept.grown {B : Nat} {W W' : World} {row : Option Nat} (h : W.grownBy W' row) (hr : ∀ r, row = some r → r < B) : Kept B W W' :=
 ⟨h.size, fun k hB hk => h.block k hk (fun e => by have := hr k e.symm; omega)⟩
theorem Kept.alloc (B : Nat) (W : World) (o : Obj) : Kept B W (W.alloc o) := .grown (World.grownBy_alloc W o none) (fun r e => by cases e)
theorem Kept.setCell {B : Nat} (W : World) {b i : Nat} (h : b < B) (v : Value) : Kept B W (W.setCell ⟨b, i, none⟩ v) :=
 ⟨by simp, fun k hB hk => Below.heap_setCell W _ v k (by simp; omega)⟩
theorem Kept.mono {B C : Nat} {W W' : World} (h : Kept B W W') (hc : B ≤ C) : Kept C W W' := ⟨h.size, fun k hk hs => h.same k (Nat.le_trans hc hk) hs⟩
def Old {β : Type} (B : Nat) (J : β → World → Prop) : Prop := ∀ s A A' row, J s A → A.grownBy A' row → (∀ r, row = some r → B ≤ r) → J s A'
theorem Old.mono {β : Type} {B C : Nat} {J : β → World → Prop} (h : Old B J) (hc : B ≤ C) : Old C J := fun s A A' row hs hg hr => h s A A' row hs hg (fun r e => Nat.le_trans hc (hr r e))
theorem Old.set {β : Type} {B : Nat} {J : β → World → Prop} (h : Old B J) {s : β} {A : World} (hs : J s A) {b i : Nat} (hb : B ≤ b) (v : Value) : J s (A.setCell ⟨b, i, none⟩ v) :=
 h s A _ (some b) hs ⟨rfl, rfl, rfl, by simp, fun k _ hk => Below.heap_setCell A _ v k (fun e => hk (by rw [e]))⟩ (fun r e => by cases e; exact hb)
theorem Old.new {β : Type} {B : Nat} {J : β → World → Prop} (h : Old B J) {s : β} {A : World} (hs : J s A) (o : Obj) : J s (A.alloc o) := h s A _ none hs (World.grownBy_alloc A o none) (fun r e => by cases e)
theorem roundAny {m m' : Nat} {P : Program} {l : Nat} {f : FuncId} {tmps : Array Value} {assign body : Code} {w : World} {R : Ending → World → Prop} (h : RoundIn Fence.wide m P l f tmps assign body w R) :
 RoundIn Fence.wide m' P l f tmps assign body w R := ⟨h.1, fun c cs _ => h.2 c cs (room_wide _)⟩
theorem yieldAny {m : Nat} (m' : Nat) {P : Program} {l : Nat} {args : Array Value} {W : World} {R : Ending → World → Prop} (h : YieldAt Fence.wide m P l args W R) : YieldAt Fence.wide m' P l args W R := by
 obtain ⟨fn, tmps, assign, body, hy, hR⟩ := h
 exact ⟨fn, tmps, assign, body, hy, roundAny hR⟩
end Go.Proofs.Ytpefdmkfmcjfnaa.Seq

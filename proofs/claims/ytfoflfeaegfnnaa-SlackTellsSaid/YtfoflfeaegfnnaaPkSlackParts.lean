import Derived.Test.YtfoflfeaegfnnaaPkSlackPlace
import Derived.Test.YtfoflfeaegfnnaaPkSlackRows
import Derived.Test.YtfoflfeaegfnnaaPkSchedIn
import Derived.Test.YtfoflfeaegfnnaaPkRouteMade
import Derived.Test.YtfoflfeaegfnnaaPkWhenDraft

/-
  The contract of a draft's Parts: a vehicle that ends early, some requests, and a drawn route.
-/
namespace Go.Proofs.Ytfoflfeaegfnnaa.Slack
open Go.RowKit Go.Sort Go.Proofs.Ytfoflfeaegfnnaa.Mem Go.Proofs.Ytfoflfeaegfnnaa.Route Go.Proofs.Ytfoflfeaegfnnaa.When Go.Proofs.Ytfoflfeaegfnnaa.Tail Go.Proofs.Ytfoflfeaegfnnaa.Feas
set_option linter.unusedVariables false

structure S6 where (x0 x1 x2 x3 x4 x5 : Int)
def s6V (x : S6) : List Value := [.int .u8 x.x0, .int .u8 x.x1, .int .u8 x.x2, .int .u8 x.x3, .int .u8 x.x4, .int .u8 x.x5]
def U8 (n : Int) : Prop := 0 ≤ n ∧ n < 256
def S6.ok (x : S6) : Prop := U8 x.x0 ∧ U8 x.x1 ∧ U8 x.x2 ∧ U8 x.x3 ∧ U8 x.x4 ∧ U8 x.x5
def flatQ (t : List Rq) : List Value := (t.map rqV).flatten
theorem flatQ_snoc (t : List Rq) (q : Rq) : flatQ (t ++ [q]) = flatQ t ++ [.int .i64 q.fx, .int .i64 q.fy, .int .i64 q.tx, .int .i64 q.ty, .int .i64 q.pe, .int .i64 q.pl, .int .i64 q.de, .int .i64 q.dl, .int .i64 q.ld, .int .i64 q.sv] := by simp [flatQ, rqV]
theorem Rqs.of_owns {B : Nat} {W : World} {base n : Nat} {e : TypeId} {v : Value} {l : List Rq} (h : W.ownsRow base e 10 v n (flatQ l)) (hn : n = l.length) (hB : W.heap.size ≤ B) : Rqs B W v l :=
  RowB.of_owns h (by simpa using hn) (fun r hr => by obtain ⟨s, _, rfl⟩ := List.mem_map.1 hr; rfl) hB
theorem info_request : (Try.prog.info? 41).map (fun i => (i.zero, i.size, i.bytes)) = some (some (.agg #[.int .i64 0, .int .i64 0, .int .i64 0, .int .i64 0, .int .i64 0, .int .i64 0, .int .i64 0, .int .i64 0, .int .i64 0, .int .i64 0]), 10, 80) := by kernel_rfl
theorem s6_at {B : Nat} {W : World} {x : Option Addr} {n cap : Nat} {t : List S6} (h : RowB B W (.slice x n cap) 6 (t.map s6V)) {k : Nat} {q : S6} (hk : t[k]? = some q) :
    ∃ g o, x = some ⟨g, o, none⟩ ∧ g < B ∧ (W.cell? ⟨g, o + k * 6, none⟩ = some (.int .u8 q.x0) ∧ W.cell? ⟨g, o + k * 6 + 1, none⟩ = some (.int .u8 q.x1) ∧ W.cell? ⟨g, o + k * 6 + 2, none⟩ = some (.int .u8 q.x2) ∧ W.cell? ⟨g, o + k * 6 + 3, none⟩ = some (.int .u8 q.x3)
      ∧ W.cell? ⟨g, o + k * 6 + 4, none⟩ = some (.int .u8 q.x4) ∧ W.cell? ⟨g, o + k * 6 + 5, none⟩ = some (.int .u8 q.x5)) := by
  obtain ⟨g, o, e, hg, hc⟩ := RowB.row h (j := k) (r := s6V q) (by rw [List.getElem?_map, hk]; rfl)
  exact ⟨g, o, e, hg, hc 0 _ rfl, hc 1 _ rfl, hc 2 _ rfl, hc 3 _ rfl, hc 4 _ rfl, hc 5 _ rfl⟩

/-- What a draft gives. -/
def PartsOk (W : World) (v : Vh) (ul ut : Value) (l : List (Int × Int)) (t : List Rq) : Prop :=
  v.en ≤ 948 ∧ Row W.heap.size W ul l ∧ Nums l ∧ l.length ≤ 12 ∧ Rqs W.heap.size W ut t ∧ 6 ≤ t.length ∧ t.length ≤ 12
theorem res_parts {fn : Func} {p c d : Tmp} (h : fn.results = #[.cell p 31, .tmp c, .tmp d]) {tmps : Array Value} {w : World} {g : Nat} {x0 x1 x2 x3 x4 b b2 : Value} (hp : tmps.getD p undef = .pointer (some ⟨g, 0, none⟩)) (hc : tmps.getD c undef = b) (hd : tmps.getD d undef = b2)
    (hA : At w g 31 #[x0, x1, x2, x3, x4]) : (results fn tmps).run Try.prog w = .ok (.tuple #[.agg #[x0, x1, x2, x3, x4], b, b2]) w := by
  have hp' : tmps[p]?.getD undef = .pointer (some ⟨g, 0, none⟩) := by simpa using hp
  have hc' : tmps[c]?.getD undef = b := by simpa using hc
  have hd' : tmps[d]?.getD undef = b2 := by simpa using hd
  have c0 := hA.cell 0
  have c1 := hA.cell 1
  have c2 := hA.cell 2
  have c3 := hA.cell 3
  have c4 := hA.cell 4
  simp at c0 c1 c2 c3 c4
  simp only [results, h]
  go_simp
theorem row_off {W W' : World} {v : Value} {m : Nat} {rows : List (List Value)} {q r : Nat} (h : RowB W.heap.size W v m rows) (hn : NewB q v) (hg : W.grownBy W' (some r)) (hr : r < q) : RowB W'.heap.size W' v m rows := by
  obtain ⟨x, cap, rfl, h1, h2, h0, h3⟩ := h
  refine ⟨x, cap, rfl, h1, h2, h0, fun j rw_ hj => ?_⟩
  obtain ⟨g, o, rfl, hgs, hc⟩ := h3 j rw_ hj
  refine ⟨g, o, rfl, Nat.lt_of_lt_of_le hgs hg.size, fun k u hk => ?_⟩
  have hqg : q ≤ g := hn g rfl
  exact (World.cell?_of_block (hg.block g hgs (fun e => by cases e; omega))).trans (hc k u hk)
def RQ_ (q : Nat) (v : Value) (W : World) : Prop := ∃ l, Row W.heap.size W v l ∧ Nums l ∧ l.length ≤ 12 ∧ NewB q v
theorem RQ_.off {q r : Nat} {v : Value} {W W' : World} (h : RQ_ q v W) (hg : W.grownBy W' (some r)) (hr : r < q) : RQ_ q v W' := by
  obtain ⟨l, h1, h2, h3, h4⟩ := h
  exact ⟨l, row_off h1 h4 hg hr, h2, h3, h4⟩
def VQ (ks : List Value) (j : Nat) (Q : Value → World → Prop) (i : Nat) (v : Value) (W : World) : Prop := (i = j → Q v W) ∧ (i ≠ j → ∀ u, ks[i]? = some u → v = u)
theorem VQ.mk {ks : List Value} {j i : Nat} {Q : Value → World → Prop} {u v : Value} {W : World} (hi : i ≠ j) (h : ks[i]? = some u) (e : v = u) : VQ ks j Q i v W := ⟨fun e => absurd e hi, fun _ k hk => by rw [h] at hk; cases hk; exact e⟩
theorem VQ.of {ks : List Value} {j : Nat} {Q : Value → World → Prop} {v : Value} {W : World} (h : Q v W) : VQ ks j Q j v W := ⟨fun _ => h, fun h => absurd rfl h⟩
def lenV : Value → Nat | .slice _ n _ => n | _ => 0
def DrJ (B0 : Nat) (w4 : World) (u : Value) (wr : World) : Prop :=
  ∃ (n : Nat) (t : List Rq), t.length = n ∧ n ≤ 12 ∧ wr.ownsRow B0 41 10 u n (flatQ t) ∧ Below B0 w4 wr
/-- The requests that have been drawn. -/
def DrI (B0 : Nat) (w4 : World) (Nr : Nat) (u i : Value) (wr : World) : Prop :=
  ∃ (k : Nat) (t : List Rq), i = .int .i64 k ∧ k ≤ 12 ∧ k ≤ Nr ∧ t.length = k ∧ wr.ownsRow B0 41 10 u k (flatQ t) ∧ Below B0 w4 wr

set_option maxRecDepth 100000 in
set_option maxHeartbeats 4000000 in
theorem parts_any (a wd s0 e0 : Int) (xr xb : Option Addr) (Nr cr Nb cb : Nat) (rs : List S6) (bs : List Int) (ha : U8 a) (hwd : U8 wd) (hs0 : U8 s0) (he0 : 0 ≤ e0 ∧ e0 < 65536) (hrs : ∀ x ∈ rs, x.ok) (hbs : ∀ x ∈ bs, 0 ≤ x ∧ x < 256)
    (w : World) (hR : RowB w.heap.size w (.slice xr Nr cr) 6 (rs.map s6V)) (hB : RowB w.heap.size w (.slice xb Nb cb) 1 (bs.map Route.byV)) :
    Calls Try.prog 7 #[.agg #[.int .u8 a, .int .u8 wd, .slice xr Nr cr, .slice xb Nb cb, .int .u8 s0, .int .u16 e0]] w fun e w' =>
      (∃ v ut ul l t, e = .returned (.tuple #[.agg #[.int .i64 v.hx, .int .i64 v.hy, .int .i64 v.cp, .int .i64 v.st, .int .i64 v.en], ut, ul]) ∧ PartsOk w' v ul ut l t) ∧ Below w.heap.size w w' := by
  obtain ⟨iq, hiq, hq0, hq1, hq2⟩ := info_parts info_request
  obtain ⟨d, hd⟩ : ∃ d, w.heap.size = d := ⟨_, rfl⟩
  obtain ⟨w1, hw1⟩ : ∃ w1, (w.alloc (.cells #[.int .u8 a, .int .u8 wd, .slice xr Nr cr, .slice xb Nb cb, .int .u8 s0, .int .u16 e0] 26)).alloc (.cells #[.int .i64 0, .int .i64 0, .int .i64 0, .int .i64 0, .int .i64 0] 31) = w1 := ⟨_, rfl⟩
  have hD1 : At w1 d 26 #[.int .u8 a, .int .u8 wd, .slice xr Nr cr, .slice xb Nb cb, .int .u8 s0, .int .u16 e0] := by rw [← hw1]; exact (At.new_ _ _ _ hd.symm).alloc _
  have hV1 : At w1 (d + 1) 31 #[.int .i64 0, .int .i64 0, .int .i64 0, .int .i64 0, .int .i64 0] := by rw [← hw1]; exact At.new_ _ _ _ (by simp [hd])
  have hb1 : Below w.heap.size w w1 := by rw [← hw1]; exact ((Below.refl _ _).alloc (Nat.le_refl _) _).alloc (by simp) _
  obtain ⟨xr', cr', exr, hr1, hr2, hr0, _⟩ := id hR
  simp only [List.length_map, Value.slice.injEq] at exr hr1
  obtain ⟨rfl, hNr, rfl⟩ := exr
  obtain ⟨xb', cb', exb, hbl1, hbl2, hbl0, _⟩ := id hB
  simp only [List.length_map, Value.slice.injEq] at exb hbl1
  obtain ⟨rfl, hNb, rfl⟩ := exb
  unfold maxLen at hr2 hbl2
  have hs1 : d + 1 < w1.heap.size := hV1.inside
  have ts0 : s0.tmod 50 = s0 % 50 := Int.tmod_eq_emod_of_nonneg hs0.1
  have te0 : e0.tmod 900 = e0 % 900 := Int.tmod_eq_emod_of_nonneg he0.1
  have hwd1 : 0 ≤ wd := hwd.1
  have hwd2 : wd < 256 := hwd.2
  have hs01 : 0 ≤ s0 := hs0.1
  have hs02 : s0 < 256 := hs0.2
  have hs03 : 0 ≤ s0 % 50 := by omega
  have hs04 : s0 % 50 < 50 := by omega
  have he01 : 0 ≤ e0 := he0.1
  have he02 : e0 < 65536 := he0.2
  have he03 : 0 ≤ e0 % 900 := by omega
  have he04 : e0 % 900 < 900 := by omega
  have hpl := place_any a ha
  have hR' := Lib.hid hR
  have hB' := Lib.hid hB
  have hrs' := Lib.hid hrs
  have hbs' := Lib.hid hbs
  have hNr' := Lib.hid hNr
  have hNb' := Lib.hid hNb
  have hb1' := Lib.hid hb1
  have hw1' := Lib.hid hw1
  have hd' := Lib.hid hd
  have hwd' : Hid (w.heap.size ≤ d) := Lib.hid (by omega)
  clear hR hB hrs hbs hNr hNb hb1 hw1 hd hr0 hbl0 ha hwd hs0 he0
  go_enter Try.func7, Try.ntmps7
  go_upto_region 1 with fail
  first | rw [hw1'.out] | (simp only [hd'.out]; rw [hw1'.out])
  try simp only [hd'.out]
  refine Sched.wp_region_sched 14 (fun W W' => Below W.heap.size W W') (VK [.val (.pointer (some ⟨d, 0, none⟩)), .val (.int .u8 a), .val (.agg #[.int .i64 (a % 16), .int .i64 (a / 16)]), .val (.pointer (some ⟨d, 1, none⟩)), .val (.int .u8 wd), .val (.int .i64 wd), .val (.int .i64 (wd * 20)), .val (.int .i64 (1 + wd * 20)), .val (.pointer (some ⟨d, 4, none⟩)), .val (.int .u8 s0), .val (.int .u8 (s0 % 50)), .val (.int .i64 (s0 % 50)), .val (.agg #[.int .i64 (a % 16), .int .i64 (a / 16), .int .i64 (1 + wd * 20), .int .i64 (s0 % 50), .int .i64 0]), .of (fun v w => ∃ g : Nat, v = .pointer (some ⟨g, 0, none⟩) ∧ w1.heap.size ≤ g ∧ At w g 31 #[.int .i64 0, .int .i64 0, .int .i64 0, .int .i64 0, .int .i64 0]) (fun ⟨g, e, hg, h⟩ hb => ⟨g, e, hg, h.keep hb h.inside⟩)]) (fun _ _ _ => True) (by kernel_rfl) (by kernel_rfl) (by kernel_rfl) (fun h1 h2 => belowTr h1 h2) (fun h1 h2 => VK.keep h1 h2) (Below.refl _ _).drew (fun _ => trivial) (Sched.StepsA.steps (by kernel_rfl) ?hSA) ?hQA
  case hSA =>
   simp only [List.take_succ_cons, List.take_zero]
   refine ⟨?_, ?_, ?_, ?_, ?_, ?_, ?_, ?_, ?_, ?_, ?_, ?_, ?_, ?_, trivial⟩
   · intro ys done W aa hE hn hF hD hZ hG hO
     replace hE : Below w1.heap.size w1 W := hE
     have o1 := hO 1 (by kernel_rfl)
     replace o1 : aa.tmps[1]? = some (.pointer (some ⟨d, 0, none⟩)) := o1
     go_wp2_with fail
     first | exact ⟨_, rfl, Below.refl _ _, VK.val rfl rfl, trivial⟩ | exact ⟨_, rfl, Below.refl _ _, VK.val rfl rfl⟩
   · intro ys done W aa hE hn hF hD hZ hG hO
     replace hE : Below w1.heap.size w1 W := hE
     have v0 := (hF 0 (by decide) (hD 0 (by kernel_rfl))).eq rfl
     have g0 := hG 0 12 rfl (Nat.le_of_ble_eq_true rfl)
     rw [v0] at g0
     have hAt := hD1.keep hE hD1.inside
     have pc := hAt.cell 0
     simp at pc
     clear hAt
     go_wp2_with fail
     first | exact ⟨_, rfl, Below.refl _ _, VK.val rfl rfl, trivial⟩ | exact ⟨_, rfl, Below.refl _ _, VK.val rfl rfl⟩
   · intro ys done W aa hE hn hF hD hZ hG hO
     replace hE : Below w1.heap.size w1 W := hE
     have v1 := (hF 1 (by decide) (hD 1 (by kernel_rfl))).eq rfl
     have g1 := hG 1 13 rfl (Nat.le_of_ble_eq_true rfl)
     rw [v1] at g1
     go_wp2_with fail
     refine (hpl W).mono ?_
     rintro e W' ⟨rfl, hb'⟩
     replace hb' := Lib.hid hb'
     go_wp2_with fail
     first | exact ⟨_, rfl, hb'.out, VK.val rfl rfl, trivial⟩ | exact ⟨_, rfl, hb'.out, VK.val rfl rfl⟩
   · intro ys done W aa hE hn hF hD hZ hG hO
     replace hE : Below w1.heap.size w1 W := hE
     have o1 := hO 1 (by kernel_rfl)
     replace o1 : aa.tmps[1]? = some (.pointer (some ⟨d, 0, none⟩)) := o1
     go_wp2_with fail
     first | exact ⟨_, rfl, Below.refl _ _, VK.val rfl rfl, trivial⟩ | exact ⟨_, rfl, Below.refl _ _, VK.val rfl rfl⟩
   · intro ys done W aa hE hn hF hD hZ hG hO
     replace hE : Below w1.heap.size w1 W := hE
     have v3 := (hF 3 (by decide) (hD 3 (by kernel_rfl))).eq rfl
     have g3 := hG 3 15 rfl (Nat.le_of_ble_eq_true rfl)
     rw [v3] at g3
     have hAt := hD1.keep hE hD1.inside
     have pc := hAt.cell 1
     simp at pc
     clear hAt
     go_wp2_with fail
     first | exact ⟨_, rfl, Below.refl _ _, VK.val rfl rfl, trivial⟩ | exact ⟨_, rfl, Below.refl _ _, VK.val rfl rfl⟩
   · intro ys done W aa hE hn hF hD hZ hG hO
     replace hE : Below w1.heap.size w1 W := hE
     have v4 := (hF 4 (by decide) (hD 4 (by kernel_rfl))).eq rfl
     have g4 := hG 4 16 rfl (Nat.le_of_ble_eq_true rfl)
     rw [v4] at g4
     go_wp2_with fail
     first | exact ⟨_, rfl, Below.refl _ _, VK.val rfl rfl, trivial⟩ | exact ⟨_, rfl, Below.refl _ _, VK.val rfl rfl⟩
   · intro ys done W aa hE hn hF hD hZ hG hO
     replace hE : Below w1.heap.size w1 W := hE
     have v5 := (hF 5 (by decide) (hD 5 (by kernel_rfl))).eq rfl
     have g5 := hG 5 17 rfl (Nat.le_of_ble_eq_true rfl)
     rw [v5] at g5
     go_wp2_with fail
     first | exact ⟨_, rfl, Below.refl _ _, VK.val rfl rfl, trivial⟩ | exact ⟨_, rfl, Below.refl _ _, VK.val rfl rfl⟩
   · intro ys done W aa hE hn hF hD hZ hG hO
     replace hE : Below w1.heap.size w1 W := hE
     have v6 := (hF 6 (by decide) (hD 6 (by kernel_rfl))).eq rfl
     have g6 := hG 6 18 rfl (Nat.le_of_ble_eq_true rfl)
     rw [v6] at g6
     go_wp2_with fail
     first | exact ⟨_, rfl, Below.refl _ _, VK.val rfl rfl, trivial⟩ | exact ⟨_, rfl, Below.refl _ _, VK.val rfl rfl⟩
   · intro ys done W aa hE hn hF hD hZ hG hO
     replace hE : Below w1.heap.size w1 W := hE
     have o1 := hO 1 (by kernel_rfl)
     replace o1 : aa.tmps[1]? = some (.pointer (some ⟨d, 0, none⟩)) := o1
     go_wp2_with fail
     first | exact ⟨_, rfl, Below.refl _ _, VK.val rfl rfl, trivial⟩ | exact ⟨_, rfl, Below.refl _ _, VK.val rfl rfl⟩
   · intro ys done W aa hE hn hF hD hZ hG hO
     replace hE : Below w1.heap.size w1 W := hE
     have v8 := (hF 8 (by decide) (hD 8 (by kernel_rfl))).eq rfl
     have g8 := hG 8 20 rfl (Nat.le_of_ble_eq_true rfl)
     rw [v8] at g8
     have hAt := hD1.keep hE hD1.inside
     have pc := hAt.cell 4
     simp at pc
     clear hAt
     go_wp2_with fail
     first | exact ⟨_, rfl, Below.refl _ _, VK.val rfl rfl, trivial⟩ | exact ⟨_, rfl, Below.refl _ _, VK.val rfl rfl⟩
   · intro ys done W aa hE hn hF hD hZ hG hO
     replace hE : Below w1.heap.size w1 W := hE
     have v9 := (hF 9 (by decide) (hD 9 (by kernel_rfl))).eq rfl
     have g9 := hG 9 21 rfl (Nat.le_of_ble_eq_true rfl)
     rw [v9] at g9
     go_wp2_with fail
     first | exact ⟨_, rfl, Below.refl _ _, VK.val rfl rfl, trivial⟩ | exact ⟨_, rfl, Below.refl _ _, VK.val rfl rfl⟩
   · intro ys done W aa hE hn hF hD hZ hG hO
     replace hE : Below w1.heap.size w1 W := hE
     have v10 := (hF 10 (by decide) (hD 10 (by kernel_rfl))).eq rfl
     have g10 := hG 10 22 rfl (Nat.le_of_ble_eq_true rfl)
     rw [v10] at g10
     go_wp2_with fail
     first | exact ⟨_, rfl, Below.refl _ _, VK.val rfl rfl, trivial⟩ | exact ⟨_, rfl, Below.refl _ _, VK.val rfl rfl⟩
   · intro ys done W aa hE hn hF hD hZ hG hO
     replace hE : Below w1.heap.size w1 W := hE
     have v2 := (hF 2 (by decide) (hD 2 (by kernel_rfl))).eq rfl
     have g2 := hG 2 14 rfl (Nat.le_of_ble_eq_true rfl)
     rw [v2] at g2
     have v7 := (hF 7 (by decide) (hD 7 (by kernel_rfl))).eq rfl
     have g7 := hG 7 19 rfl (Nat.le_of_ble_eq_true rfl)
     rw [v7] at g7
     have v11 := (hF 11 (by decide) (hD 11 (by kernel_rfl))).eq rfl
     have g11 := hG 11 23 rfl (Nat.le_of_ble_eq_true rfl)
     rw [v11] at g11
     go_wp2_with fail
     first | exact ⟨_, rfl, Below.refl _ _, VK.val rfl rfl, trivial⟩ | exact ⟨_, rfl, Below.refl _ _, VK.val rfl rfl⟩
   · intro ys done W aa hE hn hF hD hZ hG hO
     replace hE : Below w1.heap.size w1 W := hE
     go_wp2_with fail
     first | exact ⟨_, rfl, (Below.refl _ _).alloc (Nat.le_refl _) _, VK.of rfl ⟨_, rfl, hE.size, At.new _ _ _⟩, trivial⟩ | exact ⟨_, rfl, (Below.refl _ _).alloc (Nat.le_refl _) _, VK.of rfl ⟨_, rfl, hE.size, At.new _ _ _⟩⟩
  case hQA =>
   intro ys w2 hE hF _
   replace hE : Below w1.heap.size w1 w2 := hE
   have v12 := (hF 12 (by decide)).eq rfl
   obtain ⟨g, e13, hg, hG2⟩ := (hF 13 (by decide)).get rfl
   have hD2 := hD1.keep hE hD1.inside
   have hV2 := hV1.keep hE hV1.inside
   have hb2 := hb1'.out.trans (hE.mono hb1'.out.size)
   simp only [List.take_succ_cons, List.take_zero, List.drop_succ_cons, List.drop_zero, Sched.fill, v12, e13]
   clear hF v12 e13 hD1 hV1 hpl
   go_simp
   have g0 := hG2.cell 0
   have g1 := hG2.cell 1
   have g2 := hG2.cell 2
   have g3 := hG2.cell 3
   have g4 := hG2.cell 4
   have gf := hG2.free
   simp at g0 g1 g2 g3 g4
   have hgi := hG2.inside
   have hG3 := put5 (y0 := .int .i64 (a % 16)) (y1 := .int .i64 (a / 16)) (y2 := .int .i64 (1 + wd * 20)) (y3 := .int .i64 (s0 % 50)) (y4 := .int .i64 0) hG2
   have hne1 : d ≠ g := by omega
   have hne2 : d + 1 ≠ g := by omega
   have hD3 := ((((hD2.far hne1 0 (.int .i64 (a % 16))).far hne1 1 (.int .i64 (a / 16))).far hne1 2 (.int .i64 (1 + wd * 20))).far hne1 3 (.int .i64 (s0 % 50))).far hne1 4 (.int .i64 0)
   have hV3 := ((((hV2.far hne2 0 (.int .i64 (a % 16))).far hne2 1 (.int .i64 (a / 16))).far hne2 2 (.int .i64 (1 + wd * 20))).far hne2 3 (.int .i64 (s0 % 50))).far hne2 4 (.int .i64 0)
   have hgw : w.heap.size ≤ g := by have := hwd'.out; omega
   have hb3 := ((((hb2.setCell (p := ⟨g, 0, none⟩) hgw (.int .i64 (a % 16))).setCell (p := ⟨g, 1, none⟩) hgw (.int .i64 (a / 16))).setCell (p := ⟨g, 2, none⟩) hgw (.int .i64 (1 + wd * 20))).setCell (p := ⟨g, 3, none⟩) hgw (.int .i64 (s0 % 50))).setCell (p := ⟨g, 4, none⟩) hgw (.int .i64 0)
   go_upto_region 2 with fail
   generalize ((((w2.setCell ⟨g, 0, none⟩ (.int .i64 (a % 16))).setCell ⟨g, 1, none⟩ (.int .i64 (a / 16))).setCell ⟨g, 2, none⟩ (.int .i64 (1 + wd * 20))).setCell ⟨g, 3, none⟩ (.int .i64 (s0 % 50))).setCell ⟨g, 4, none⟩ (.int .i64 0) = w3 at *
   clear g0 g1 g2 g3 g4 gf hgi hG2 hD2 hV2 hb2 hE
   have g3 := hG3.cell 3
   have g4 := hG3.cell 4
   have gf := hG3.free
   have d5 := hD3.cell 5
   simp at g3 g4 d5
   have hgi := hG3.inside
   have hG4 : At (w3.setCell ⟨g, 4, none⟩ (.int .i64 (s0 % 50 + e0 % 900))) g 31 #[.int .i64 (a % 16), .int .i64 (a / 16), .int .i64 (1 + wd * 20), .int .i64 (s0 % 50), .int .i64 (s0 % 50 + e0 % 900)] := by simpa using hG3.put 4 (.int .i64 (s0 % 50 + e0 % 900))
   have hD4 := hD3.far hne1 4 (.int .i64 (s0 % 50 + e0 % 900))
   have hV4 := hV3.far hne2 4 (.int .i64 (s0 % 50 + e0 % 900))
   have hb4 := hb3.setCell (p := ⟨g, 4, none⟩) hgw (.int .i64 (s0 % 50 + e0 % 900))
   go_upto_region 3 with fail
   generalize w3.setCell ⟨g, 4, none⟩ (.int .i64 (s0 % 50 + e0 % 900)) = w4 at *
   clear g3 g4 gf d5 hgi hG3 hD3 hV3 hb3
   have hG := Lib.hid hG4
   have hD := Lib.hid hD4
   have hV := Lib.hid hV4
   have hb := Lib.hid hb4
   have hi4 : g < w4.heap.size := hG4.inside
   have hi4d : d + 1 < w4.heap.size := hV4.inside
   clear hG4 hD4 hV4 hb4
   have hO0 : w4.ownsRow w4.heap.size 41 10 (.slice none 0 0) 0 (flatQ []) := World.ownsRow_nil _ _ _ _
   go_wp2
   go_loopw [6, 7] (fun u i wr => DrI w4.heap.size w4 Nr u i wr)
     (fun _ i _ => 12 - (intOf i).toNat)
   case atStart => exact ⟨0, [], rfl, by omega, by omega, rfl, hO0, Below.refl _ _⟩
   case round =>
     obtain ⟨k, t, rfl, hk, hkN, htl, hown0, hbw⟩ := hrel
     have hown := Lib.hid hown0
     clear hown0
     clear hO0
     obtain ⟨xu, cu, rfl, _, _⟩ := owns_slice hown.out
     have hDr := hD.out.keep hbw (by omega)
     have d1 := hDr.cell 1
     have d2 := hDr.cell 2
     simp at d1 d2
     have hDi := hDr.inside
     have htl' := Lib.hid htl
     clear htl
     by_cases hgo : k < 12 ∧ k < Nr
     · obtain ⟨hk12, hkNr⟩ := hgo
       have hkI : ((k : Int) < 12) := by omega
       have hkJ : ((k : Int) < (Nr : Int)) := by omega
       obtain ⟨q, hq⟩ : ∃ q, rs[k]? = some q := ⟨rs[k]'(by have := hNr'.out; omega), List.getElem?_eq_getElem _⟩
       obtain ⟨⟨a01, a02⟩, ⟨a11, a12⟩, ⟨a21, a22⟩, ⟨a31, a32⟩, ⟨a41, a42⟩, ⟨a51, a52⟩⟩ := hrs'.out q (List.mem_of_getElem? hq)
       have hRr : RowB w.heap.size wr (.slice xr Nr cr) 6 (rs.map s6V) := hR'.out.keep (hb.out.trans (hbw.mono (by have := hwd'.out; omega))) (Nat.le_refl _)
       obtain ⟨gr, orr, rfl, hgr, c0, c1, c2, c3, c4, c5⟩ := s6_at hRr hq
       obtain ⟨m, hm⟩ : ∃ m, wr.heap.size = m := ⟨_, rfl⟩
       obtain ⟨w5, hw5⟩ : ∃ w5, wr.alloc (.cells #[.int .u8 q.x0, .int .u8 q.x1, .int .u8 q.x2, .int .u8 q.x3, .int .u8 q.x4, .int .u8 q.x5] 62) = w5 := ⟨_, rfl⟩
       have hb5 : Below wr.heap.size wr w5 := by rw [← hw5]; exact (Below.refl _ _).alloc (Nat.le_refl _) _
       have hX5 : At w5 m 62 #[.int .u8 q.x0, .int .u8 q.x1, .int .u8 q.x2, .int .u8 q.x3, .int .u8 q.x4, .int .u8 q.x5] := by rw [← hw5]; exact At.new_ _ _ _ hm.symm
       have hown5 := Lib.hid (owns_below hown.out hb5)
       have hbw5 := Lib.hid (hbw.trans (hb5.mono hbw.size))
       have hD5 := hDr.keep hb5 hDi
       have hszm : w4.heap.size ≤ m := by rw [← hm]; exact hbw.size
       have hmi := hX5.inside
       have hw5' := Lib.hid hw5
       have hm' := Lib.hid hm
       clear hw5 hm hb5 hown hbw hDr hRr hq
       go_upto_region 8 with fail
       simp only [hm'.out]
       rw [hw5'.out]
       clear c0 c1 c2 c3 c4 c5 d2
       have d1 := hD5.cell 1
       have x2 := hX5.cell 2
       have x3 := hX5.cell 3
       simp at d1 x2 x3
       go_upto_region 9 with fail
       go_quiet (fail)
       have hX6 : At (w5.drewN nq) m 62 #[.int .u8 q.x0, .int .u8 q.x1, .int .u8 q.x2, .int .u8 q.x3, .int .u8 q.x4, .int .u8 q.x5] := hX5.drewN nq
       have hown6 : Hid ((w5.drewN nq).ownsRow w4.heap.size 41 10 (.slice xu k cu) k (flatQ t)) := Lib.hid (owns_below hown5.out (Place.below_drewN (Below.refl _ _) nq))
       have hbw6 := Lib.hid (Place.below_drewN hbw5.out nq)
       have hmi6 : m < (w5.drewN nq).heap.size := hmi
       clear hX5 hown5 hbw5 hD5 d1 x2 x3 hmi
       generalize w5.drewN nq = w8 at *
       have t4 : q.x4.tmod 40 = q.x4 % 40 := Int.tmod_eq_emod_of_nonneg a41
       have t5 : q.x5.tmod 8 = q.x5 % 8 := Int.tmod_eq_emod_of_nonneg a51
       have b4 : 0 ≤ q.x4 % 40 := by omega
       have b41 : q.x4 % 40 < 40 := by omega
       have b5 : 0 ≤ q.x5 % 8 := by omega
       have b51 : q.x5 % 8 < 8 := by omega
       have hp0 := place_any q.x0 ⟨a01, a02⟩
       have hp1 := place_any q.x1 ⟨a11, a12⟩
       have hXi := hX6.inside
       have hkM : (k : Int) ≤ 12 := by omega
       go_upto_region 10 with fail
       refine Sched.wp_region_sched 29 (fun W W' => Below W.heap.size W W') (VK [.val (.slice xu k cu), .val (.pointer (some ⟨m, 0, none⟩)), .val (.int .u8 q.x0), .val (.agg #[.int .i64 (q.x0 % 16), .int .i64 (q.x0 / 16)]), .val (.pointer (some ⟨m, 1, none⟩)), .val (.int .u8 q.x1), .val (.agg #[.int .i64 (q.x1 % 16), .int .i64 (q.x1 / 16)]), .val (.int .i64 q.x2), .val (.int .i64 q.x2), .val (.int .i64 (20 + 4 * wd)), .val (.int .i64 (q.x2 + (20 + 4 * wd))), .val (.agg #[.int .i64 q.x2, .int .i64 (q.x2 + (20 + 4 * wd))]), .val (.int .i64 q.x3), .val (.int .i64 q.x3), .val (.int .i64 (20 + 4 * wd)), .val (.int .i64 (q.x3 + (20 + 4 * wd))), .val (.int .i64 (q.x3 + (20 + 4 * wd) + 60)), .val (.agg #[.int .i64 q.x3, .int .i64 (q.x3 + (20 + 4 * wd) + 60)]), .val (.pointer (some ⟨m, 4, none⟩)), .val (.int .u8 q.x4), .val (.int .u8 (q.x4 % 40)), .val (.int .i64 (q.x4 % 40)), .val (.int .i64 (1 + q.x4 % 40)), .val (.pointer (some ⟨m, 5, none⟩)), .val (.int .u8 q.x5), .val (.int .u8 (q.x5 % 8)), .val (.int .i64 (q.x5 % 8)), .val (.agg #[.int .i64 (q.x0 % 16), .int .i64 (q.x0 / 16), .int .i64 (q.x1 % 16), .int .i64 (q.x1 / 16), .int .i64 q.x2, .int .i64 (q.x2 + (20 + 4 * wd)), .int .i64 q.x3, .int .i64 (q.x3 + (20 + 4 * wd) + 60), .int .i64 (1 + q.x4 % 40), .int .i64 (q.x5 % 8)]), .of (fun v w => ∃ g : Nat, v = .slice (some ⟨g, 0, none⟩) 1 1 ∧ w8.heap.size ≤ g ∧ At w g 41 #[.int .i64 (q.x0 % 16), .int .i64 (q.x0 / 16), .int .i64 (q.x1 % 16), .int .i64 (q.x1 / 16), .int .i64 q.x2, .int .i64 (q.x2 + (20 + 4 * wd)), .int .i64 q.x3, .int .i64 (q.x3 + (20 + 4 * wd) + 60), .int .i64 (1 + q.x4 % 40), .int .i64 (q.x5 % 8)]) (fun ⟨g, e, hg, h⟩ hb => ⟨g, e, hg, h.keep hb h.inside⟩)]) (fun _ _ _ => True) (by kernel_rfl) (by kernel_rfl) (by kernel_rfl) (fun h1 h2 => belowTr h1 h2) (fun h1 h2 => VK.keep h1 h2) (Below.refl _ _).drew (fun _ => trivial) (Sched.StepsA.steps (by kernel_rfl) ?hSB) ?hQB
       case hSB =>
        simp only [List.take_succ_cons, List.take_zero]
        refine ⟨?_, ?_, ?_, ?_, ?_, ?_, ?_, ?_, ?_, ?_, ?_, ?_, ?_, ?_, ?_, ?_, ?_, ?_, ?_, ?_, ?_, ?_, ?_, ?_, ?_, ?_, ?_, ?_, ?_, trivial⟩
        · intro ys done W aa hE hn hF hD hZ hG hO
          replace hE : Below w8.heap.size w8 W := hE
          have o6 := hO 6 (by kernel_rfl)
          replace o6 : aa.tmps[6]? = some (.slice xu k cu) := o6
          go_wp2_with fail
          first | exact ⟨_, rfl, Below.refl _ _, VK.val rfl rfl, trivial⟩ | exact ⟨_, rfl, Below.refl _ _, VK.val rfl rfl⟩
        · intro ys done W aa hE hn hF hD hZ hG hO
          replace hE : Below w8.heap.size w8 W := hE
          have o8 := hO 8 (by kernel_rfl)
          replace o8 : aa.tmps[8]? = some (.pointer (some ⟨m, 0, none⟩)) := o8
          go_wp2_with fail
          first | exact ⟨_, rfl, Below.refl _ _, VK.val rfl rfl, trivial⟩ | exact ⟨_, rfl, Below.refl _ _, VK.val rfl rfl⟩
        · intro ys done W aa hE hn hF hD hZ hG hO
          replace hE : Below w8.heap.size w8 W := hE
          have v1 := (hF 1 (by decide) (hD 1 (by kernel_rfl))).eq rfl
          have g1 := hG 1 61 rfl (Nat.le_of_ble_eq_true rfl)
          rw [v1] at g1
          have hAt := hX6.keep hE hX6.inside
          have pc := hAt.cell 0
          simp at pc
          clear hAt
          go_wp2_with fail
          first | exact ⟨_, rfl, Below.refl _ _, VK.val rfl rfl, trivial⟩ | exact ⟨_, rfl, Below.refl _ _, VK.val rfl rfl⟩
        · intro ys done W aa hE hn hF hD hZ hG hO
          replace hE : Below w8.heap.size w8 W := hE
          have v2 := (hF 2 (by decide) (hD 2 (by kernel_rfl))).eq rfl
          have g2 := hG 2 62 rfl (Nat.le_of_ble_eq_true rfl)
          rw [v2] at g2
          go_wp2_with fail
          refine (hp0 W).mono ?_
          rintro e W' ⟨rfl, hb'⟩
          replace hb' := Lib.hid hb'
          go_wp2_with fail
          first | exact ⟨_, rfl, hb'.out, VK.val rfl rfl, trivial⟩ | exact ⟨_, rfl, hb'.out, VK.val rfl rfl⟩
        · intro ys done W aa hE hn hF hD hZ hG hO
          replace hE : Below w8.heap.size w8 W := hE
          have o8 := hO 8 (by kernel_rfl)
          replace o8 : aa.tmps[8]? = some (.pointer (some ⟨m, 0, none⟩)) := o8
          go_wp2_with fail
          first | exact ⟨_, rfl, Below.refl _ _, VK.val rfl rfl, trivial⟩ | exact ⟨_, rfl, Below.refl _ _, VK.val rfl rfl⟩
        · intro ys done W aa hE hn hF hD hZ hG hO
          replace hE : Below w8.heap.size w8 W := hE
          have v4 := (hF 4 (by decide) (hD 4 (by kernel_rfl))).eq rfl
          have g4 := hG 4 64 rfl (Nat.le_of_ble_eq_true rfl)
          rw [v4] at g4
          have hAt := hX6.keep hE hX6.inside
          have pc := hAt.cell 1
          simp at pc
          clear hAt
          go_wp2_with fail
          first | exact ⟨_, rfl, Below.refl _ _, VK.val rfl rfl, trivial⟩ | exact ⟨_, rfl, Below.refl _ _, VK.val rfl rfl⟩
        · intro ys done W aa hE hn hF hD hZ hG hO
          replace hE : Below w8.heap.size w8 W := hE
          have v5 := (hF 5 (by decide) (hD 5 (by kernel_rfl))).eq rfl
          have g5 := hG 5 65 rfl (Nat.le_of_ble_eq_true rfl)
          rw [v5] at g5
          go_wp2_with fail
          refine (hp1 W).mono ?_
          rintro e W' ⟨rfl, hb'⟩
          replace hb' := Lib.hid hb'
          go_wp2_with fail
          first | exact ⟨_, rfl, hb'.out, VK.val rfl rfl, trivial⟩ | exact ⟨_, rfl, hb'.out, VK.val rfl rfl⟩
        · intro ys done W aa hE hn hF hD hZ hG hO
          replace hE : Below w8.heap.size w8 W := hE
          have o10 := hO 10 (by kernel_rfl)
          replace o10 : aa.tmps[10]? = some (.int .i64 q.x2) := o10
          go_wp2_with fail
          first | exact ⟨_, rfl, Below.refl _ _, VK.val rfl rfl, trivial⟩ | exact ⟨_, rfl, Below.refl _ _, VK.val rfl rfl⟩
        · intro ys done W aa hE hn hF hD hZ hG hO
          replace hE : Below w8.heap.size w8 W := hE
          have o10 := hO 10 (by kernel_rfl)
          replace o10 : aa.tmps[10]? = some (.int .i64 q.x2) := o10
          go_wp2_with fail
          first | exact ⟨_, rfl, Below.refl _ _, VK.val rfl rfl, trivial⟩ | exact ⟨_, rfl, Below.refl _ _, VK.val rfl rfl⟩
        · intro ys done W aa hE hn hF hD hZ hG hO
          replace hE : Below w8.heap.size w8 W := hE
          have o9 := hO 9 (by kernel_rfl)
          replace o9 : aa.tmps[9]? = some (.int .i64 (20 + 4 * wd)) := o9
          go_wp2_with fail
          first | exact ⟨_, rfl, Below.refl _ _, VK.val rfl rfl, trivial⟩ | exact ⟨_, rfl, Below.refl _ _, VK.val rfl rfl⟩
        · intro ys done W aa hE hn hF hD hZ hG hO
          replace hE : Below w8.heap.size w8 W := hE
          have v8 := (hF 8 (by decide) (hD 8 (by kernel_rfl))).eq rfl
          have g8 := hG 8 68 rfl (Nat.le_of_ble_eq_true rfl)
          rw [v8] at g8
          have v9 := (hF 9 (by decide) (hD 9 (by kernel_rfl))).eq rfl
          have g9 := hG 9 69 rfl (Nat.le_of_ble_eq_true rfl)
          rw [v9] at g9
          go_wp2_with fail
          first | exact ⟨_, rfl, Below.refl _ _, VK.val rfl rfl, trivial⟩ | exact ⟨_, rfl, Below.refl _ _, VK.val rfl rfl⟩
        · intro ys done W aa hE hn hF hD hZ hG hO
          replace hE : Below w8.heap.size w8 W := hE
          have v7 := (hF 7 (by decide) (hD 7 (by kernel_rfl))).eq rfl
          have g7 := hG 7 67 rfl (Nat.le_of_ble_eq_true rfl)
          rw [v7] at g7
          have v10 := (hF 10 (by decide) (hD 10 (by kernel_rfl))).eq rfl
          have g10 := hG 10 70 rfl (Nat.le_of_ble_eq_true rfl)
          rw [v10] at g10
          go_wp2_with fail
          first | exact ⟨_, rfl, Below.refl _ _, VK.val rfl rfl, trivial⟩ | exact ⟨_, rfl, Below.refl _ _, VK.val rfl rfl⟩
        · intro ys done W aa hE hn hF hD hZ hG hO
          replace hE : Below w8.heap.size w8 W := hE
          have o11 := hO 11 (by kernel_rfl)
          replace o11 : aa.tmps[11]? = some (.int .i64 q.x3) := o11
          go_wp2_with fail
          first | exact ⟨_, rfl, Below.refl _ _, VK.val rfl rfl, trivial⟩ | exact ⟨_, rfl, Below.refl _ _, VK.val rfl rfl⟩
        · intro ys done W aa hE hn hF hD hZ hG hO
          replace hE : Below w8.heap.size w8 W := hE
          have o11 := hO 11 (by kernel_rfl)
          replace o11 : aa.tmps[11]? = some (.int .i64 q.x3) := o11
          go_wp2_with fail
          first | exact ⟨_, rfl, Below.refl _ _, VK.val rfl rfl, trivial⟩ | exact ⟨_, rfl, Below.refl _ _, VK.val rfl rfl⟩
        · intro ys done W aa hE hn hF hD hZ hG hO
          replace hE : Below w8.heap.size w8 W := hE
          have o9 := hO 9 (by kernel_rfl)
          replace o9 : aa.tmps[9]? = some (.int .i64 (20 + 4 * wd)) := o9
          go_wp2_with fail
          first | exact ⟨_, rfl, Below.refl _ _, VK.val rfl rfl, trivial⟩ | exact ⟨_, rfl, Below.refl _ _, VK.val rfl rfl⟩
        · intro ys done W aa hE hn hF hD hZ hG hO
          replace hE : Below w8.heap.size w8 W := hE
          have v13 := (hF 13 (by decide) (hD 13 (by kernel_rfl))).eq rfl
          have g13 := hG 13 73 rfl (Nat.le_of_ble_eq_true rfl)
          rw [v13] at g13
          have v14 := (hF 14 (by decide) (hD 14 (by kernel_rfl))).eq rfl
          have g14 := hG 14 74 rfl (Nat.le_of_ble_eq_true rfl)
          rw [v14] at g14
          go_wp2_with fail
          first | exact ⟨_, rfl, Below.refl _ _, VK.val rfl rfl, trivial⟩ | exact ⟨_, rfl, Below.refl _ _, VK.val rfl rfl⟩
        · intro ys done W aa hE hn hF hD hZ hG hO
          replace hE : Below w8.heap.size w8 W := hE
          have v15 := (hF 15 (by decide) (hD 15 (by kernel_rfl))).eq rfl
          have g15 := hG 15 75 rfl (Nat.le_of_ble_eq_true rfl)
          rw [v15] at g15
          go_wp2_with fail
          first | exact ⟨_, rfl, Below.refl _ _, VK.val rfl rfl, trivial⟩ | exact ⟨_, rfl, Below.refl _ _, VK.val rfl rfl⟩
        · intro ys done W aa hE hn hF hD hZ hG hO
          replace hE : Below w8.heap.size w8 W := hE
          have v12 := (hF 12 (by decide) (hD 12 (by kernel_rfl))).eq rfl
          have g12 := hG 12 72 rfl (Nat.le_of_ble_eq_true rfl)
          rw [v12] at g12
          have v16 := (hF 16 (by decide) (hD 16 (by kernel_rfl))).eq rfl
          have g16 := hG 16 76 rfl (Nat.le_of_ble_eq_true rfl)
          rw [v16] at g16
          go_wp2_with fail
          first | exact ⟨_, rfl, Below.refl _ _, VK.val rfl rfl, trivial⟩ | exact ⟨_, rfl, Below.refl _ _, VK.val rfl rfl⟩
        · intro ys done W aa hE hn hF hD hZ hG hO
          replace hE : Below w8.heap.size w8 W := hE
          have o8 := hO 8 (by kernel_rfl)
          replace o8 : aa.tmps[8]? = some (.pointer (some ⟨m, 0, none⟩)) := o8
          go_wp2_with fail
          first | exact ⟨_, rfl, Below.refl _ _, VK.val rfl rfl, trivial⟩ | exact ⟨_, rfl, Below.refl _ _, VK.val rfl rfl⟩
        · intro ys done W aa hE hn hF hD hZ hG hO
          replace hE : Below w8.heap.size w8 W := hE
          have v18 := (hF 18 (by decide) (hD 18 (by kernel_rfl))).eq rfl
          have g18 := hG 18 78 rfl (Nat.le_of_ble_eq_true rfl)
          rw [v18] at g18
          have hAt := hX6.keep hE hX6.inside
          have pc := hAt.cell 4
          simp at pc
          clear hAt
          go_wp2_with fail
          first | exact ⟨_, rfl, Below.refl _ _, VK.val rfl rfl, trivial⟩ | exact ⟨_, rfl, Below.refl _ _, VK.val rfl rfl⟩
        · intro ys done W aa hE hn hF hD hZ hG hO
          replace hE : Below w8.heap.size w8 W := hE
          have v19 := (hF 19 (by decide) (hD 19 (by kernel_rfl))).eq rfl
          have g19 := hG 19 79 rfl (Nat.le_of_ble_eq_true rfl)
          rw [v19] at g19
          go_wp2_with fail
          first | exact ⟨_, rfl, Below.refl _ _, VK.val rfl rfl, trivial⟩ | exact ⟨_, rfl, Below.refl _ _, VK.val rfl rfl⟩
        · intro ys done W aa hE hn hF hD hZ hG hO
          replace hE : Below w8.heap.size w8 W := hE
          have v20 := (hF 20 (by decide) (hD 20 (by kernel_rfl))).eq rfl
          have g20 := hG 20 80 rfl (Nat.le_of_ble_eq_true rfl)
          rw [v20] at g20
          go_wp2_with fail
          first | exact ⟨_, rfl, Below.refl _ _, VK.val rfl rfl, trivial⟩ | exact ⟨_, rfl, Below.refl _ _, VK.val rfl rfl⟩
        · intro ys done W aa hE hn hF hD hZ hG hO
          replace hE : Below w8.heap.size w8 W := hE
          have v21 := (hF 21 (by decide) (hD 21 (by kernel_rfl))).eq rfl
          have g21 := hG 21 81 rfl (Nat.le_of_ble_eq_true rfl)
          rw [v21] at g21
          go_wp2_with fail
          first | exact ⟨_, rfl, Below.refl _ _, VK.val rfl rfl, trivial⟩ | exact ⟨_, rfl, Below.refl _ _, VK.val rfl rfl⟩
        · intro ys done W aa hE hn hF hD hZ hG hO
          replace hE : Below w8.heap.size w8 W := hE
          have o8 := hO 8 (by kernel_rfl)
          replace o8 : aa.tmps[8]? = some (.pointer (some ⟨m, 0, none⟩)) := o8
          go_wp2_with fail
          first | exact ⟨_, rfl, Below.refl _ _, VK.val rfl rfl, trivial⟩ | exact ⟨_, rfl, Below.refl _ _, VK.val rfl rfl⟩
        · intro ys done W aa hE hn hF hD hZ hG hO
          replace hE : Below w8.heap.size w8 W := hE
          have v23 := (hF 23 (by decide) (hD 23 (by kernel_rfl))).eq rfl
          have g23 := hG 23 83 rfl (Nat.le_of_ble_eq_true rfl)
          rw [v23] at g23
          have hAt := hX6.keep hE hX6.inside
          have pc := hAt.cell 5
          simp at pc
          clear hAt
          go_wp2_with fail
          first | exact ⟨_, rfl, Below.refl _ _, VK.val rfl rfl, trivial⟩ | exact ⟨_, rfl, Below.refl _ _, VK.val rfl rfl⟩
        · intro ys done W aa hE hn hF hD hZ hG hO
          replace hE : Below w8.heap.size w8 W := hE
          have v24 := (hF 24 (by decide) (hD 24 (by kernel_rfl))).eq rfl
          have g24 := hG 24 84 rfl (Nat.le_of_ble_eq_true rfl)
          rw [v24] at g24
          go_wp2_with fail
          first | exact ⟨_, rfl, Below.refl _ _, VK.val rfl rfl, trivial⟩ | exact ⟨_, rfl, Below.refl _ _, VK.val rfl rfl⟩
        · intro ys done W aa hE hn hF hD hZ hG hO
          replace hE : Below w8.heap.size w8 W := hE
          have v25 := (hF 25 (by decide) (hD 25 (by kernel_rfl))).eq rfl
          have g25 := hG 25 85 rfl (Nat.le_of_ble_eq_true rfl)
          rw [v25] at g25
          go_wp2_with fail
          first | exact ⟨_, rfl, Below.refl _ _, VK.val rfl rfl, trivial⟩ | exact ⟨_, rfl, Below.refl _ _, VK.val rfl rfl⟩
        · intro ys done W aa hE hn hF hD hZ hG hO
          replace hE : Below w8.heap.size w8 W := hE
          have v3 := (hF 3 (by decide) (hD 3 (by kernel_rfl))).eq rfl
          have g3 := hG 3 63 rfl (Nat.le_of_ble_eq_true rfl)
          rw [v3] at g3
          have v6 := (hF 6 (by decide) (hD 6 (by kernel_rfl))).eq rfl
          have g6 := hG 6 66 rfl (Nat.le_of_ble_eq_true rfl)
          rw [v6] at g6
          have v11 := (hF 11 (by decide) (hD 11 (by kernel_rfl))).eq rfl
          have g11 := hG 11 71 rfl (Nat.le_of_ble_eq_true rfl)
          rw [v11] at g11
          have v17 := (hF 17 (by decide) (hD 17 (by kernel_rfl))).eq rfl
          have g17 := hG 17 77 rfl (Nat.le_of_ble_eq_true rfl)
          rw [v17] at g17
          have v22 := (hF 22 (by decide) (hD 22 (by kernel_rfl))).eq rfl
          have g22 := hG 22 82 rfl (Nat.le_of_ble_eq_true rfl)
          rw [v22] at g22
          have v26 := (hF 26 (by decide) (hD 26 (by kernel_rfl))).eq rfl
          have g26 := hG 26 86 rfl (Nat.le_of_ble_eq_true rfl)
          rw [v26] at g26
          go_wp2_with fail
          first | exact ⟨_, rfl, Below.refl _ _, VK.val rfl rfl, trivial⟩ | exact ⟨_, rfl, Below.refl _ _, VK.val rfl rfl⟩
        · intro ys done W aa hE hn hF hD hZ hG hO
          replace hE : Below w8.heap.size w8 W := hE
          have v27 := (hF 27 (by decide) (hD 27 (by kernel_rfl))).eq rfl
          have g27 := hG 27 87 rfl (Nat.le_of_ble_eq_true rfl)
          rw [v27] at g27
          go_wp2_with fail
          first | exact ⟨_, rfl, (Below.refl _ _).alloc (Nat.le_refl _) _, VK.of rfl ⟨_, rfl, hE.size, At.new _ _ _⟩, trivial⟩ | exact ⟨_, rfl, (Below.refl _ _).alloc (Nat.le_refl _) _, VK.of rfl ⟨_, rfl, hE.size, At.new _ _ _⟩⟩
       case hQB =>
        intro ys w9 hE hF _
        replace hE : Below w8.heap.size w8 w9 := hE
        have v0 := (hF 0 (by decide)).eq rfl
        obtain ⟨gq, e28, hgq, hQ9⟩ := (hF 28 (by decide)).get rfl
        have hown9 := Lib.hid (owns_below hown6.out hE)
        have hbw9 := Lib.hid (hbw6.out.trans (hE.mono hbw6.out.size))
        have hQ9' := Lib.hid hQ9
        simp only [List.take_succ_cons, List.take_zero, List.drop_succ_cons, List.drop_zero, Sched.fill, v0, e28]
        clear hF v0 e28 hX6 hown6 hbw6 hp0 hp1
        go_simp
        have hqi := hQ9.inside
        have hbs9 := hbw9.out.size
        clear hQ9 hE
        go_wp2_with (at_builtin; refine wpList_append_own _ rfl _ _ 35 rfl w4.heap.size 41 iq (.agg #[.int .i64 0, .int .i64 0, .int .i64 0, .int .i64 0, .int .i64 0, .int .i64 0, .int .i64 0, .int .i64 0, .int .i64 0, .int .i64 0]) 10 80 Try.underlying35 hiq hq0 hq1 hq2 rfl (by decide) _ _ _ rfl hown9.out ⟨gq, 0, none⟩ 1 1 (Array.toList #[.int .i64 (q.x0 % 16), .int .i64 (q.x0 / 16), .int .i64 (q.x1 % 16), .int .i64 (q.x1 / 16), .int .i64 q.x2, .int .i64 (q.x2 + (20 + 4 * wd)), .int .i64 q.x3, .int .i64 (q.x3 + (20 + 4 * wd) + 60), .int .i64 (1 + q.x4 % 40), .int .i64 (q.x5 % 8)]) rfl rfl (World.news_of_block (cs := #[.int .i64 (q.x0 % 16), .int .i64 (q.x0 / 16), .int .i64 (q.x1 % 16), .int .i64 (q.x1 / 16), .int .i64 q.x2, .int .i64 (q.x2 + (20 + 4 * wd)), .int .i64 q.x3, .int .i64 (q.x3 + (20 + 4 * wd) + 60), .int .i64 (1 + q.x4 % 40), .int .i64 (q.x5 % 8)]) (t := 41) (fr := (0, 0)) hQ9'.out) (by simp [Value.oneCell']) (by unfold maxLen; omega) (by omega) (by omega) ?_; intro v7 w10 hown7 hgrow7 hnil7; have hr7 := owns_row hown9.out; have hown10 := Lib.hid hown7; have hbw10 := Lib.hid (hbw9.out.grown hgrow7 hbs9 hr7); clear hown7 hgrow7 hnil7 hr7)
        refine ⟨⟨k + 1, t ++ [⟨q.x0 % 16, q.x0 / 16, q.x1 % 16, q.x1 / 16, q.x2, q.x2 + (20 + 4 * wd), q.x3, q.x3 + (20 + 4 * wd) + 60, 1 + q.x4 % 40, q.x5 % 8⟩], by go_num, by omega, by omega, by simp [htl'.out], ?_, hbw10.out⟩, by simp [intOf]; omega⟩
        have h9 := hown10.out
        rw [flatQ_snoc]
        exact h9
     · have hown' := Lib.hid hown
       have hbw' := Lib.hid hbw
       clear hDr hown hbw d1
       go_upto_region 5 with fail
       go_cut [41] from 33 to 41 (fun s wx => s = .bool false ∧ wx = wr)
       case first =>
         by_cases hkNr : k < Nr
         · have hkI : ¬ ((k : Int) < 12) := by omega
           have hkJ : ((k : Int) < (Nr : Int)) := by omega
           go_wp2
           all_goals go_meet
           exact ⟨rfl, rfl⟩
         · have hkJ : ¬ ((k : Int) < (Nr : Int)) := by omega
           go_wp2
           all_goals go_meet
           exact ⟨rfl, rfl⟩
       case rest =>
       obtain ⟨rfl, hwc⟩ := hcut
       obtain rfl : wr = wc := hwc.symm
       clear d2 hgo hDi
       have hJ0 : DrJ w4.heap.size w4 (.slice xu k cu) wr := ⟨k, t, htl'.out, hk, hown'.out, hbw'.out⟩
       clear hown' hbw' htl' hk hkN
       go_wp2
       go_loopw [6] (fun u w => DrJ w4.heap.size w4 u w) (fun u _ => 6 - lenV u)
       case atStart => exact hJ0
       case round =>
         obtain ⟨n, t, htl, hn12, hown0, hbw0⟩ := hrel
         clear hJ0
         obtain ⟨xv, cv, rfl, _, _⟩ := owns_slice hown0
         have hown := Lib.hid hown0
         have hbw := Lib.hid hbw0
         have htl' := Lib.hid htl
         have hbs := hbw0.size
         clear hown0 hbw0 htl
         have hnI : (n : Int) ≤ 12 := by omega
         by_cases hn6 : n < 6
         · have hn6I : ((n : Int) < 6) := by omega
           go_wp2_with (at_builtin; refine wpList_append_own _ rfl _ _ 35 rfl w4.heap.size 41 iq (.agg #[.int .i64 0, .int .i64 0, .int .i64 0, .int .i64 0, .int .i64 0, .int .i64 0, .int .i64 0, .int .i64 0, .int .i64 0, .int .i64 0]) 10 80 Try.underlying35 hiq hq0 hq1 hq2 rfl (by decide) _ _ _ rfl (owns_below hown.out ((Below.refl _ _).alloc (Nat.le_refl _) _)) ⟨wr.heap.size, 0, none⟩ 1 1 (Array.toList #[.int .i64 0, .int .i64 0, .int .i64 0, .int .i64 0, .int .i64 0, .int .i64 400, .int .i64 0, .int .i64 900, .int .i64 2, .int .i64 n]) rfl rfl (World.news_of_block (cs := #[.int .i64 0, .int .i64 0, .int .i64 0, .int .i64 0, .int .i64 0, .int .i64 400, .int .i64 0, .int .i64 900, .int .i64 2, .int .i64 n]) (t := 41) (fr := (0, 0)) (heap_alloc_new wr _)) (by simp [Value.oneCell']) (by unfold maxLen; omega) (by omega) (by simp; omega) ?_; intro v7 w10 hown7 hgrow7 hnil7; have hr7 := owns_row hown.out; have hown10 := Lib.hid hown7; have hbw10 := Lib.hid ((hbw.out.alloc hbs _).grown hgrow7 (by simp; omega) hr7); obtain ⟨x7, c7, rfl, _, _⟩ := owns_slice hown7; clear hown7 hgrow7 hnil7 hr7)
           refine ⟨⟨n + 1, t ++ [⟨0, 0, 0, 0, 0, 400, 0, 900, 2, n⟩], by simp [htl'.out], by omega, ?_, hbw10.out⟩, by simp [lenV]; omega⟩
           have h9 := hown10.out
           rw [flatQ_snoc]
           exact h9
         · have hn6I : ¬ ((n : Int) < 6) := by omega
           go_upto_region 13 with fail
           have hw4s := hwd'.out
           have hbw2 := hb.out.trans (hbw.out.mono (show w.heap.size ≤ w4.heap.size by omega))
           have hDr := hD.out.keep hbw.out (by omega)
           have hGr := hG.out.keep hbw.out hi4
           have hVr := hV.out.keep hbw.out hi4d
           have hBr : Hid (RowB w.heap.size wr (.slice xb Nb cb) 1 (bs.map Route.byV)) := Lib.hid (hB'.out.keep hbw2 (Nat.le_refl _))
           have hbw2' := Lib.hid hbw2
           have hrs : d + 1 < wr.heap.size := by omega
           have hgs : g < wr.heap.size := by omega
           clear hbw2
           refine Sched.wp_region_sched 6 (fun W W' => W.grownBy W' (some (d + 1))) (VQ [.agg #[.int .i64 (a % 16), .int .i64 (a / 16), .int .i64 (1 + wd * 20), .int .i64 (s0 % 50), .int .i64 (s0 % 50 + e0 % 900)], .slice xv n cv, .pointer (some ⟨d, 3, none⟩), .slice xb Nb cb, undef, undef] 4 (RQ_ wr.heap.size)) (ZR 5 (fun W => At W (d + 1) 31 #[.int .i64 0, .int .i64 0, .int .i64 0, .int .i64 0, .int .i64 0]) (fun W => At W (d + 1) 31 #[.int .i64 (a % 16), .int .i64 (a / 16), .int .i64 (1 + wd * 20), .int .i64 (s0 % 50), .int .i64 (s0 % 50 + e0 % 900)])) (by kernel_rfl) (by kernel_rfl) (by kernel_rfl) (fun h1 h2 => h1.trans h2) (fun h1 h2 => ⟨fun e => (h1.1 e).off h2 hrs, h1.2⟩) (gDrew _ _) (fun _ => ZR.start ?hZC) (Sched.StepsA.steps (by kernel_rfl) ?hSC) ?hQC
           case hZC => exact hVr
           case hSC =>
            simp only [List.take_succ_cons, List.take_zero]
            refine ⟨?_, ?_, ?_, ?_, ?_, ?_, trivial⟩
            · intro ys done W aa hE hn hF hD2 hZ hG2 hO
              replace hE : wr.grownBy W (some (d + 1)) := hE
              have o5 := hO 5 (by kernel_rfl)
              replace o5 : aa.tmps[5]? = some (.pointer (some ⟨g, 0, none⟩)) := o5
              have hAt := At.off hGr hE hne2.symm
              have p0 := hAt.cell 0
              have p1 := hAt.cell 1
              have p2 := hAt.cell 2
              have p3 := hAt.cell 3
              have p4 := hAt.cell 4
              simp at p0 p1 p2 p3 p4
              clear hAt
              go_wp2_with fail
              exact ⟨_, rfl, gRefl _ _, VQ.mk (by decide) rfl rfl, hZ.light (by decide)⟩
            · intro ys done W aa hE hn hF hD2 hZ hG2 hO
              have o6 := hO 6 (by kernel_rfl)
              replace o6 : aa.tmps[6]? = some (.slice xv n cv) := o6
              go_wp2_with fail
              exact ⟨_, rfl, gRefl _ _, VQ.mk (by decide) rfl rfl, hZ.light (by decide)⟩
            · intro ys done W aa hE hn hF hD2 hZ hG2 hO
              have o1 := hO 1 (by kernel_rfl)
              replace o1 : aa.tmps[1]? = some (.pointer (some ⟨d, 0, none⟩)) := o1
              go_wp2_with fail
              exact ⟨_, rfl, gRefl _ _, VQ.mk (by decide) rfl rfl, hZ.light (by decide)⟩
            · intro ys done W aa hE hn hF hD2 hZ hG2 hO
              replace hE : wr.grownBy W (some (d + 1)) := hE
              have g2 := hG2 2 103 rfl (Nat.le_of_ble_eq_true rfl)
              rw [show ys 2 = .pointer (some ⟨d, 3, none⟩) from (hF 2 (by decide) (hD2 2 (by kernel_rfl))).2 (by decide) _ rfl] at g2
              have hAt := At.off hDr hE (by omega)
              have p3 := hAt.cell 3
              simp at p3
              clear hAt
              go_wp2_with fail
              exact ⟨_, rfl, gRefl _ _, VQ.mk (by decide) rfl rfl, hZ.light (by decide)⟩
            · intro ys done W aa hE hn hF hD2 hZ hG2 hO
              replace hE : wr.grownBy W (some (d + 1)) := hE
              have g3 := hG2 3 104 rfl (Nat.le_of_ble_eq_true rfl)
              rw [show ys 3 = .slice xb Nb cb from (hF 3 (by decide) (hD2 3 (by kernel_rfl))).2 (by decide) _ rfl] at g3
              have hbW : Below w.heap.size wr W := (Below.refl _ _).grown hE (by have := hbw2'.out.size; omega) (fun r e => by cases e; omega)
              have hsW := hE.size
              have hmk := Made_new _ bs hbs'.out W ((hBr.out.keep hbW (Nat.le_refl _)).more (by have := hbw2'.out.size; omega))
              clear hbW
              go_wp2_with fail
              refine hmk.mono ?_
              clear hmk
              rintro e W' ⟨⟨vl, rfl, ⟨l, kk, hl1, hl2, hl3, hl4⟩, hl5⟩, hb'⟩
              have hq := Lib.hid (show RQ_ wr.heap.size vl W' from ⟨l, hl1, hl2.nums hl3, by rw [hl2.2.1]; omega, fun r e => Nat.le_trans hsW (hl5 r e)⟩)
              replace hb' := Lib.hid hb'
              have hz' : Hid (ZR 5 (fun W => At W (d + 1) 31 #[.int .i64 0, .int .i64 0, .int .i64 0, .int .i64 0, .int .i64 0]) (fun W => At W (d + 1) 31 #[.int .i64 (a % 16), .int .i64 (a / 16), .int .i64 (1 + wd * 20), .int .i64 (s0 % 50), .int .i64 (s0 % 50 + e0 % 900)]) (Sched.mark done 4) (Sched.upd ys 4 vl) W') := Lib.hid (ZR.light (k := 4) (ys' := Sched.upd ys 4 vl) (show ZR 5 (fun W => At W (d + 1) 31 #[.int .i64 0, .int .i64 0, .int .i64 0, .int .i64 0, .int .i64 0]) (fun W => At W (d + 1) 31 #[.int .i64 (a % 16), .int .i64 (a / 16), .int .i64 (1 + wd * 20), .int .i64 (s0 % 50), .int .i64 (s0 % 50 + e0 % 900)]) done ys W' from ⟨fun h => (hZ.1 h).keep hb'.out (hZ.1 h).inside, fun h => (hZ.2 h).keep hb'.out (hZ.2 h).inside⟩) (by decide))
              clear hl1 hl2 hl3 hl4 hl5
              go_wp2_with fail
              exact ⟨_, rfl, gOf hb'.out, VQ.of hq.out, hz'.out⟩
            · intro ys done W aa hE hn hF hD2 hZ hG2 hO
              replace hE : wr.grownBy W (some (d + 1)) := hE
              have g0 := hG2 0 101 rfl (Nat.le_of_ble_eq_true rfl)
              rw [show ys 0 = .agg #[.int .i64 (a % 16), .int .i64 (a / 16), .int .i64 (1 + wd * 20), .int .i64 (s0 % 50), .int .i64 (s0 % 50 + e0 % 900)] from (hF 0 (by decide) (hD2 0 (by kernel_rfl))).2 (by decide) _ rfl] at g0
              have o2 := hO 2 (by kernel_rfl)
              replace o2 : aa.tmps[2]? = some (.pointer (some ⟨d + 1, 0, none⟩)) := o2
              have hP := hZ.1 hn
              have p0 := hP.cell 0
              have p1 := hP.cell 1
              have p2 := hP.cell 2
              have p3 := hP.cell 3
              have p4 := hP.cell 4
              have pf := hP.free
              simp at p0 p1 p2 p3 p4
              have hP' := Lib.hid (put5 (y0 := .int .i64 (a % 16)) (y1 := .int .i64 (a / 16)) (y2 := .int .i64 (1 + wd * 20)) (y3 := .int .i64 (s0 % 50)) (y4 := .int .i64 (s0 % 50 + e0 % 900)) hP)
              clear hP
              go_wp2_with fail
              exact ⟨((((gPut _ _ _ _).trans (gPut _ _ _ _)).trans (gPut _ _ _ _)).trans (gPut _ _ _ _)).trans (gPut _ _ _ _), undef, VQ.mk (u := undef) (by decide) rfl rfl, ZR.put hP'.out⟩
           case hQC =>
            intro ys w6 hE hF hZ
            replace hE : wr.grownBy w6 (some (d + 1)) := hE
            obtain ⟨done, hd, hZ⟩ := hZ
            have hV6 : At w6 (d + 1) 31 #[.int .i64 (a % 16), .int .i64 (a / 16), .int .i64 (1 + wd * 20), .int .i64 (s0 % 50), .int .i64 (s0 % 50 + e0 % 900)] := hZ.2 (hd 5 (by decide))
            have v1 : ys 1 = .slice xv n cv := (hF 1 (by decide)).2 (by decide) _ rfl
            obtain ⟨l, hl1, hl2, hl3, hl4⟩ := (hF 4 (by decide)).1 rfl
            obtain ⟨ul, hul⟩ : ∃ u, ys 4 = u := ⟨_, rfl⟩
            rw [hul] at hl1 hl4
            have hown6 := Lib.hid (owns_old hown.out hE (fun r e => .inl (by cases e; omega)))
            have hb6 : Hid (Below w.heap.size w w6) := Lib.hid (hbw2'.out.grown hE hbw2'.out.size (fun r e => by cases e; omega))
            have hV6' := Lib.hid hV6
            obtain ⟨xl, cl, rfl, _⟩ := hl1.slice
            have hl1' := Lib.hid hl1
            simp only [List.take_succ_cons, List.take_zero, List.drop_succ_cons, List.drop_zero, Sched.fill, v1, hul]
            clear hF hZ hd v1 hul hE hDr hGr hVr hV6 hl1 hl4
            go_simp
            go_wp2
            refine bodyPost_ret (res_parts rfl rfl rfl rfl (by exact hV6'.out)) rfl ?_
            refine ⟨⟨⟨a % 16, a / 16, 1 + wd * 20, s0 % 50, s0 % 50 + e0 % 900⟩, _, _, rfl, l, t, ?_, hl1'.out, hl2, hl3, Rqs.of_owns hown6.out htl'.out.symm (Nat.le_refl _), ?_, ?_⟩, hb6.out⟩
            · show s0 % 50 + e0 % 900 ≤ 948
              omega
            · rw [htl'.out]; omega
            · rw [htl'.out]; exact hn12

end Go.Proofs.Ytfoflfeaegfnnaa.Slack

import Derived.Test.YtlbghdiebjldjaaGreatDoorPkWhenMild

namespace Go.Proofs.YtlbghdiebjldjaaGreatDoor.Slack
open Go.Proofs.YtlbghdiebjldjaaGreatDoor.Order Go.Proofs.YtlbghdiebjldjaaGreatDoor.Place Go.Proofs.YtlbghdiebjldjaaGreatDoor.Window Go.Proofs.YtlbghdiebjldjaaGreatDoor.When
set_option linter.unusedVariables false
def beB (a : Sp) (x : Vi) (b : Int) : Int := max (arV a x) x.we + b
def goB (a : Sp) (x : Vi) (b : Int) : Sp := ⟨beB a x b + x.sv, x.px, x.py⟩
def tmB (a : Sp) (x : Vi) (b : Int) : Tm := ⟨arV a x, beB a x b, beB a x b + x.sv⟩
def endB (a : Sp) (ys : List (Vi × Int)) : Sp := ys.foldl (fun a y => goB a y.1 y.2) a
def rowB : Sp → List (Vi × Int) → List Tm
 | _, [] => []
 | a, y :: ys => tmB a y.1 y.2 :: rowB (goB a y.1 y.2) ys
def okBs : Sp → List (Vi × Int) → Bool
 | _, [] => true
 | a, y :: ys => decide (beB a y.1 y.2 ≤ y.1.wl) && okBs (goB a y.1 y.2) ys
theorem endB_snoc (a : Sp) (ys : List (Vi × Int)) (y : Vi × Int) : endB a (ys ++ [y]) = goB (endB a ys) y.1 y.2 := by simp [endB]
theorem rowB_append : ∀ (a : Sp) (ys zs : List (Vi × Int)), rowB a (ys ++ zs) = rowB a ys ++ rowB (endB a ys) zs
 | a, [], zs => rfl
 | a, y :: ys, zs => by simp [rowB, endB, rowB_append (goB a y.1 y.2) ys zs]
theorem rowB_snoc (a : Sp) (ys : List (Vi × Int)) (y : Vi × Int) : rowB a (ys ++ [y]) = rowB a ys ++ [tmB (endB a ys) y.1 y.2] := by rw [rowB_append]; rfl
theorem rowB_length : ∀ (a : Sp) (ys : List (Vi × Int)), (rowB a ys).length = ys.length
 | a, [] => rfl
 | a, y :: ys => by simp [rowB, rowB_length (goB a y.1 y.2) ys]
theorem okBs_append : ∀ (a : Sp) (ys zs : List (Vi × Int)), okBs a (ys ++ zs) = (okBs a ys && okBs (endB a ys) zs)
 | a, [], zs => by simp [okBs, endB]
 | a, y :: ys, zs => by simp [okBs, endB, okBs_append (goB a y.1 y.2) ys zs, Bool.and_assoc]
theorem okBs_snoc (a : Sp) (ys : List (Vi × Int)) (y : Vi × Int) : okBs a (ys ++ [y]) = (okBs a ys && decide (beB (endB a ys) y.1 y.2 ≤ y.1.wl)) := by rw [okBs_append]; simp [okBs]
def bmp (i by_ : Int) (k : Nat) : Int := if (k : Int) = i then by_ else 0
def pairs (xs : List Vi) (i by_ : Int) : List (Vi × Int) := xs.mapIdx fun k x => (x, bmp i by_ k)
theorem pairs_length (xs : List Vi) (i by_ : Int) : (pairs xs i by_).length = xs.length := by simp [pairs]
theorem pairs_get {xs : List Vi} {i by_ : Int} {k : Nat} {x : Vi} (h : xs[k]? = some x) : (pairs xs i by_)[k]? = some (x, bmp i by_ k) := by simp [pairs, h]
def plainP (xs : List Vi) : List (Vi × Int) := xs.map fun x => (x, 0)
theorem pairs_plain {xs : List Vi} {i by_ : Int} (h : by_ = 0 ∨ i < 0 ∨ (xs.length : Int) ≤ i) : pairs xs i by_ = plainP xs := by
 apply List.ext_getElem?
 intro j
 simp only [pairs, plainP, List.getElem?_mapIdx, List.getElem?_map]
 cases hx : xs[j]? with
 | none => rfl
 | some x =>
  have := (List.getElem?_eq_some_iff.1 hx).1
  have : bmp i by_ j = 0 := by
   unfold bmp
   split
   · rcases h with h | h | h <;> omega
   · rfl
  simp [this]
def fromB (v : Vh) (l : List (Int × Int)) (t : List Rq) (i by_ : Int) : Bool := okBs (sp0 v) (pairs (visL t l) i by_) && decide (arV (endB (sp0 v) (pairs (visL t l) i by_)) (homeV v) ≤ v.en)
def fromE (v : Vh) (l : List (Int × Int)) (t : List Rq) (i by_ : Int) : Int := if wrongV v l t ≠ 0 then wrongV v l t else if fromB v l t i by_ then 0 else 9
def fromT (v : Vh) (l : List (Int × Int)) (t : List Rq) (i by_ : Int) : List Tm := if fromE v l t i by_ = 0 then rowB (sp0 v) (pairs (visL t l) i by_) else []
def fromH (v : Vh) (l : List (Int × Int)) (t : List Rq) (i by_ : Int) : Int := if fromE v l t i by_ = 0 then arV (endB (sp0 v) (pairs (visL t l) i by_)) (homeV v) else 0
theorem fromE_wrong {v : Vh} {l : List (Int × Int)} {t : List Rq} {i by_ : Int} (h : wrongV v l t ≠ 0) : fromE v l t i by_ = wrongV v l t := by simp [fromE, h]
theorem fromE_ok {v : Vh} {l : List (Int × Int)} {t : List Rq} {i by_ : Int} (h : wrongV v l t = 0) : fromE v l t i by_ = if fromB v l t i by_ then 0 else 9 := by simp [fromE, h]
end Go.Proofs.YtlbghdiebjldjaaGreatDoor.Slack
namespace Go.Proofs.YtlbghdiebjldjaaGreatDoor.Slack
open Go.RowKit Go.Sort Go.Proofs.YtlbghdiebjldjaaGreatDoor.Mem Go.Proofs.YtlbghdiebjldjaaGreatDoor.Route Go.Proofs.YtlbghdiebjldjaaGreatDoor.When Go.Proofs.YtlbghdiebjldjaaGreatDoor.Tail
set_option linter.unusedVariables false
def visN (v : Vh) (t : List Rq) (l : List (Int × Int)) (k : Nat) : Vi := ((visL t l)[k]?).getD (homeV v)
theorem visN_at {v : Vh} {t : List Rq} {l : List (Int × Int)} {k : Nat} {s : Int × Int} (h : l[k]? = some s) : visN v t l k = visV t s := by simp [visN, visL, h]
theorem distCall (ax ay bx by_ D : Int) (hD : Place.distV (ax, ay) (bx, by_) = D) (w : World) : Calls Tryz.prog 105 #[.agg #[.int .i64 ax, .int .i64 ay], .agg #[.int .i64 bx, .int .i64 by_]] w fun e w' => e = .returned (.int .i64 D) ∧ Below w.heap.size w w' := by
 rw [← hD]; exact Place.Dist_any _ _ _ _ _
theorem res_spot {fn : Func} {p c : Tmp} (h : fn.results = #[.cell p 62, .cell c 70]) {tmps : Array Value} {w : World} {g m : Nat} {x0 x1 y0 y1 : Value} (hp : tmps.getD p undef = .pointer (some ⟨g, 0, none⟩)) (hc : tmps.getD c undef = .pointer (some ⟨m, 0, none⟩))
 (hA : At w g 62 #[x0, x1]) (hB : At w m 70 #[y0, y1]) : (results fn tmps).run Tryz.prog w = .ok (.tuple #[.agg #[x0, x1], .agg #[y0, y1]]) w := by
 have hp' : tmps[p]?.getD undef = .pointer (some ⟨g, 0, none⟩) := by simpa using hp
 have hc' : tmps[c]?.getD undef = .pointer (some ⟨m, 0, none⟩) := by simpa using hc
 have c0 := hA.cell 0
 have c1 := hA.cell 1
 have d0 := hB.cell 0
 have d1 := hB.cell 1
 simp at c0 c1 d0 d1
 simp only [results, h]
 go_simp
set_option maxRecDepth 100000 in
set_option maxHeartbeats 2000000 in
theorem spot_any (r : Nat) (s2 : Int) (vt : Value) (t : List Rq) (x : Vi) (hx : visO t ((r : Int), s2) = some x) (w : World) (hT : Rqs w.heap.size w vt t) :
 Calls Tryz.prog 144 #[.agg #[.int .i64 r, .int .i64 s2], vt] w fun e w' => e = .returned (.tuple #[.agg #[.int .i64 x.px, .int .i64 x.py], .agg #[.int .i64 x.we, .int .i64 x.wl]]) ∧ Below w.heap.size w w' := by
 obtain ⟨xt, Nt, Ct, rfl, hNt, htc1, htc2, ht0⟩ := hT.opened
 unfold maxLen at htc2
 obtain ⟨q, hq, hr0, hr1, hsv, hk⟩ := visO_some hx
 simp only [Int.toNat_natCast] at hq
 have hrN : r < Nt := by rw [← hNt]; exact (List.getElem?_eq_some_iff.1 hq).1
 have hrI : ((r : Int) < (Nt : Int)) := by omega
 obtain ⟨n, hn⟩ : ∃ n, w.heap.size = n := ⟨_, rfl⟩
 obtain ⟨w1, hw1⟩ : ∃ w1, ((w.alloc (.cells #[.int .i64 r, .int .i64 s2] 75)).alloc (.cells #[.int .i64 0, .int .i64 0] 62)).alloc (.cells #[.int .i64 0, .int .i64 0] 70) = w1 := ⟨_, rfl⟩
 have hS1 : At w1 n 75 #[.int .i64 r, .int .i64 s2] := by rw [← hw1]; exact ((At.new_ _ _ _ hn.symm).alloc _).alloc _
 have hP1 : At w1 (n + 1) 62 #[.int .i64 0, .int .i64 0] := by rw [← hw1]; exact (At.new_ _ _ _ (by simp [hn])).alloc _
 have hW1 : At w1 (n + 2) 70 #[.int .i64 0, .int .i64 0] := by rw [← hw1]; exact At.new_ _ _ _ (by simp [hn])
 have hb1 : Below w.heap.size w w1 := by rw [← hw1]; exact (((Below.refl _ _).alloc (Nat.le_refl _) _).alloc (by simp) _).alloc (by simp; omega) _
 have hs1 : w1.heap.size = n + 3 := by rw [← hw1, ← hn]; simp
 obtain ⟨g, o, rfl, hg, d0, d1, d2, d3, d4, d5, d6, d7, d8, d9⟩ := Rqs.at (hT.keep hb1 (Nat.le_refl _)) hq
 obtain ⟨w2, hw2⟩ : ∃ w2, w1.alloc (.cells #[.int .i64 q.fx, .int .i64 q.fy, .int .i64 q.tx, .int .i64 q.ty, .int .i64 q.pe, .int .i64 q.pl, .int .i64 q.de, .int .i64 q.dl, .int .i64 q.ld, .int .i64 q.sv] 72) = w2 := ⟨_, rfl⟩
 have hQ2 : At w2 (n + 3) 72 #[.int .i64 q.fx, .int .i64 q.fy, .int .i64 q.tx, .int .i64 q.ty, .int .i64 q.pe, .int .i64 q.pl, .int .i64 q.de, .int .i64 q.dl, .int .i64 q.ld, .int .i64 q.sv] := by rw [← hw2]; exact At.new_ _ _ _ hs1.symm
 have hS2 : At w2 n 75 #[.int .i64 r, .int .i64 s2] := by rw [← hw2]; exact hS1.alloc _
 have hP2 : At w2 (n + 1) 62 #[.int .i64 0, .int .i64 0] := by rw [← hw2]; exact hP1.alloc _
 have hW2 : At w2 (n + 2) 70 #[.int .i64 0, .int .i64 0] := by rw [← hw2]; exact hW1.alloc _
 have hb2 : Below w.heap.size w w2 := by rw [← hw2]; exact hb1.alloc (by omega) _
 have y0 := hS1.cell 0
 have z1 := hS2.cell 1
 have p0 := hP2.cell 0
 have p1 := hP2.cell 1
 have pf := hP2.free
 have v0 := hW2.cell 0
 have v1 := hW2.cell 1
 have vf := hW2.free
 have q0 := hQ2.cell 0
 have q1 := hQ2.cell 1
 have q2 := hQ2.cell 2
 have q3 := hQ2.cell 3
 have q4 := hQ2.cell 4
 have q5 := hQ2.cell 5
 have q6 := hQ2.cell 6
 have q7 := hQ2.cell 7
 simp at y0 z1 p0 p1 v0 v1 q0 q1 q2 q3 q4 q5 q6 q7
 have hi2 : n + 3 < w2.heap.size := hQ2.inside
 have hi2a : n < w2.heap.size := by omega
 have hi2b : n + 1 < w2.heap.size := by omega
 have hi2c : n + 2 < w2.heap.size := by omega
 have hi1 : n < w1.heap.size := by omega
 have hw1' := Lib.hid hw1
 have hw2' := Lib.hid hw2
 have hn' := Lib.hid hn
 have hs1' := Lib.hid hs1
 have hP := Lib.hid hP2
 have hW := Lib.hid hW2
 have hb := Lib.hid hb2
 clear hw1 hw2 hn hs1 hT hx hq hNt ht0 hS1 hP1 hW1 hb1 hQ2 hS2 hP2 hW2 hb2 hsv
 rcases hk with ⟨hk, rfl⟩ | ⟨hk, rfl⟩
 · simp only at hk
   subst hk
   go_enter Tryz.func144, Tryz.ntmps144
   go_upto_region 1 with fail
   first | rw [hw1'.out] | (simp only [hn'.out]; rw [hw1'.out])
   try simp only [hn'.out]
   go_upto_region 2 with fail
   simp only [hs1'.out]
   rw [hw2'.out]
   clear d0 d1 d2 d3 d4 d5 d6 d7 d8 d9 y0
   go_upto_region 3 with fail
   go_region
   go_wp2
   refine bodyPost_ret (res_spot rfl rfl rfl (by first | exact (((put2 hP.out).far (by omega) _ _).far (by omega) _ _).drew) (by exact (put2 ((hW.out.far (by omega) _ _).far (by omega) _ _)).drew)) rfl ?_
   refine ⟨rfl, ?_⟩
   rw [hn'.out]
   have hb9 := hb.out
   rw [hn'.out] at hb9
   exact Below.drew ((((hb9.setCell (by simp) _).setCell (by simp) _).setCell (by simp; omega) _).setCell (by simp; omega) _)
 · simp only at hk
   subst hk
   go_enter Tryz.func144, Tryz.ntmps144
   go_upto_region 1 with fail
   first | rw [hw1'.out] | (simp only [hn'.out]; rw [hw1'.out])
   try simp only [hn'.out]
   go_upto_region 2 with fail
   simp only [hs1'.out]
   rw [hw2'.out]
   clear d0 d1 d2 d3 d4 d5 d6 d7 d8 d9 y0
   go_upto_region 3 with fail
   go_region
   go_wp2
   refine bodyPost_ret (res_spot rfl rfl rfl (by first | exact (((put2 hP.out).far (by omega) _ _).far (by omega) _ _).drew) (by exact (put2 ((hW.out.far (by omega) _ _).far (by omega) _ _)).drew)) rfl ?_
   refine ⟨rfl, ?_⟩
   rw [hn'.out]
   have hb9 := hb.out
   rw [hn'.out] at hb9
   exact Below.drew ((((hb9.setCell (by simp) _).setCell (by simp) _).setCell (by simp; omega) _).setCell (by simp; omega) _)
end Go.Proofs.YtlbghdiebjldjaaGreatDoor.Slack
namespace Go.Proofs.YtlbghdiebjldjaaGreatDoor.Slack
open Go.Proofs.YtlbghdiebjldjaaGreatDoor.Order Go.Proofs.YtlbghdiebjldjaaGreatDoor.Place Go.Proofs.YtlbghdiebjldjaaGreatDoor.Window Go.Proofs.YtlbghdiebjldjaaGreatDoor.When
set_option linter.unusedVariables false
def Okv (x : Vi) : Prop := 0 ≤ x.we ∧ x.we ≤ x.wl ∧ x.wl ≤ 1048576 ∧ 0 ≤ x.sv ∧ x.sv ≤ 1000
theorem okv_of {t : List Rq} (ht : ∀ q ∈ t, q.chk = 0) {s : Int × Int} {x : Vi} (h : visO t s = some x) : Okv x := by
 obtain ⟨q, hq, _, _, _, hk⟩ := visO_some h
 have hc := ht q (List.mem_of_getElem? hq)
 unfold Rq.chk at hc
 obtain ⟨_, ⟨h1, h2⟩, _, h4, h5⟩ := (Order.chk_iff ..).1 hc
 have h1 := (Window.okB_iff _ _).1 h1
 have h2 := (Window.okB_iff _ _).1 h2
 rcases hk with ⟨_, rfl⟩ | ⟨_, rfl⟩
 · exact ⟨by show 0 ≤ q.pe; omega, by show q.pe ≤ q.pl; omega, by show q.pl ≤ _; omega, h4, h5⟩
 · exact ⟨by show 0 ≤ q.de; omega, by show q.de ≤ q.dl; omega, by show q.dl ≤ _; omega, h4, h5⟩
theorem wait_okv {x : Vi} (h : Okv x) (n : Int) : waitB x.we x.wl n = decide (n ≤ x.wl) := by
 obtain ⟨h1, h2, h3, _⟩ := h
 have : okB x.we x.wl = true := by simp [okB]; omega
 unfold waitB hasB
 rw [this, Bool.true_and, Bool.eq_iff_iff]
 simp
 omega
theorem wait_okvV {x : Vi} (h : Okv x) {n : Int} (hn : n ≤ x.wl) : waitV x.we x.wl n = max n x.we := wait_yes (by rw [wait_okv h, decide_eq_true hn])
theorem allB_plain : ∀ {xs : List Vi} {a : Sp}, (∀ x ∈ xs, Okv x) → allB a xs = okBs a (plainP xs) ∧ (okBs a (plainP xs) = true → endA a xs = endB a (plainP xs) ∧ tmsL (stepsL a xs) = rowB a (plainP xs))
 | [], a, _ => ⟨rfl, fun _ => ⟨rfl, rfl⟩⟩
 | x :: xs, a, hx => by
  have h1 := hx x (List.mem_cons_self ..)
  have e0 : beB a x 0 = max (arV a x) x.we := by simp [beB]
  have e1 : allB a (x :: xs) = (decide (arV a x ≤ x.wl) && allB (goV a x) xs) := by
   unfold allB
   rw [stepsL, List.all_cons]
   rw [show good (a, x) = decide (arV a x ≤ x.wl) from wait_okv h1 _]
  have e2 : okBs a (plainP (x :: xs)) = (decide (arV a x ≤ x.wl) && okBs (goB a x 0) (plainP xs)) := by
   show (decide (beB a x 0 ≤ x.wl) && _) = _
   rw [e0]
   congr 1
   have := h1.2.1
   by_cases h : arV a x ≤ x.wl
   · rw [decide_eq_true h, decide_eq_true (by omega)]
   · rw [decide_eq_false h, decide_eq_false (by omega)]
  rw [e1, e2]
  by_cases hk : arV a x ≤ x.wl
  · have hb : beV a x = beB a x 0 := by rw [e0]; exact wait_okvV h1 hk
    have hg : goV a x = goB a x 0 := by unfold goV goB; rw [hb]
    have ht : tmV a x = tmB a x 0 := by unfold tmV tmB; rw [hb]
    obtain ⟨i1, i2⟩ := allB_plain (xs := xs) (a := goB a x 0) fun z hz => hx z (List.mem_cons_of_mem _ hz)
    rw [decide_eq_true hk, Bool.true_and, Bool.true_and, hg]
    refine ⟨i1, fun h => ?_⟩
    obtain ⟨j1, j2⟩ := i2 h
    constructor
    · show endA (goV a x) xs = endB (goB a x 0) (plainP xs)
      rw [hg]; exact j1
    · show tmV a x :: tmsL (stepsL (goV a x) xs) = tmB a x 0 :: rowB (goB a x 0) (plainP xs)
      rw [ht, hg, j2]
  · rw [decide_eq_false hk]
    exact ⟨rfl, fun h => by cases h⟩
structure Fine0 (v : Vh) (l : List (Int × Int)) (t : List Rq) : Prop where
 veh : v.chk = 0
 req : ∀ q ∈ t, q.chk = 0
 vis : ∀ s ∈ l, ∃ x, visO t s = some x
 okv : ∀ x ∈ visL t l, Okv x
theorem fine0_of {v : Vh} {l : List (Int × Int)} {t : List Rq} (h : wrongV v l t = 0) : Fine0 v l t := by
 obtain ⟨h1, h2, _, h4⟩ := wrong_bits v l t h
 refine ⟨h1, h2, h4, fun x hx => ?_⟩
 obtain ⟨s, hs, rfl⟩ := List.mem_map.1 hx
 obtain ⟨x, hx⟩ := h4 s hs
 rw [(vis_some hx).1]
 exact okv_of h2 hx
theorem home_okv {v : Vh} (h : v.chk = 0) : Okv (homeV v) := by
 have := veh_bd h
 unfold homeV Okv
 simp only
 omega
theorem errT_zero {v : Vh} {l : List (Int × Int)} {t : List Rq} : errT v l t = 0 ↔ wrongV v l t = 0 ∧ okT v l t = true := by
 unfold errT
 constructor
 · intro h
   by_cases h0 : wrongV v l t = 0
   · rw [if_neg (by simpa using h0)] at h
     cases hk : okT v l t
     · rw [hk] at h; simp at h
     · exact ⟨h0, rfl⟩
   · rw [if_pos h0] at h
     exact absurd h h0
 · rintro ⟨h1, h2⟩
   rw [if_neg (by simpa using h1), h2]
   rfl
theorem okT_fromB {v : Vh} {l : List (Int × Int)} {t : List Rq} (hw : wrongV v l t = 0) {i by_ : Int} (h : by_ = 0 ∨ i < 0 ∨ (l.length : Int) ≤ i) : fromB v l t i by_ = okT v l t := by
 have hf := fine0_of hw
 have hp : pairs (visL t l) i by_ = plainP (visL t l) := pairs_plain (by simpa [visL] using h)
 obtain ⟨e1, e2⟩ := allB_plain (a := sp0 v) hf.okv
 unfold fromB okT
 rw [hp, ← e1]
 cases hb : allB (sp0 v) (visL t l)
 · rfl
 · rw [hb] at e1
   obtain ⟨e3, _⟩ := e2 e1.symm
   unfold endT
   rw [e3]
theorem fromE_no {v : Vh} {l : List (Int × Int)} {t : List Rq} {i by_ : Int} (h : by_ = 0 ∨ i < 0 ∨ (l.length : Int) ≤ i) : fromE v l t i by_ = errT v l t := by
 by_cases hw : wrongV v l t = 0
 · rw [fromE_ok hw, okT_fromB hw h]
   unfold errT
   simp [hw]
 · rw [fromE_wrong hw]
   unfold errT
   rw [if_pos hw]
theorem from_no {v : Vh} {l : List (Int × Int)} {t : List Rq} {i by_ : Int} (h : by_ = 0 ∨ i < 0 ∨ (l.length : Int) ≤ i) : fromT v l t i by_ = timesL v l t ∧ fromH v l t i by_ = homeT v l t := by
 unfold fromT fromH timesL homeT
 rw [fromE_no h]
 by_cases he : errT v l t = 0
 · rw [if_pos he, if_pos he, if_pos he, if_pos he]
   obtain ⟨hw, hk⟩ := errT_zero.1 he
   have hf := fine0_of hw
   have hp : pairs (visL t l) i by_ = plainP (visL t l) := pairs_plain (by simpa [visL] using h)
   obtain ⟨e1, e2⟩ := allB_plain (a := sp0 v) hf.okv
   unfold okT at hk
   rw [Bool.and_eq_true] at hk
   rw [hk.1] at e1
   obtain ⟨e3, e4⟩ := e2 e1.symm
   rw [hp]
   exact ⟨e4.symm, by unfold endT; rw [e3]⟩
 · rw [if_neg he, if_neg he, if_neg he, if_neg he]
   exact ⟨rfl, rfl⟩
end Go.Proofs.YtlbghdiebjldjaaGreatDoor.Slack
namespace Go.Proofs.YtlbghdiebjldjaaGreatDoor.When
open Go.RowKit Go.Proofs.YtlbghdiebjldjaaGreatDoor.Mem Go.Proofs.YtlbghdiebjldjaaGreatDoor.Route
set_option linter.unusedVariables false
theorem cutTo {B : Nat} {W : World} {x : Option Addr} {N cap k m : Nat} {l : List (List Value)} (h : RowB B W (.slice x N cap) m l) (hl : l.length = N) (hk : k ≤ N) (C : Nat) (hC : k ≤ C) (hC2 : C ≤ maxLen) (hx : x = none → C = 0) : RowB B W (.slice x k C) m (l.take k) := by
 obtain ⟨x', cap', e, h1, h2, h0, h3⟩ := h
 simp only [Value.slice.injEq] at e
 obtain ⟨rfl, rfl, rfl⟩ := e
 refine ⟨x, C, by simp; omega, by simp; omega, hC2, fun hx' => ?_, fun j r hj => ?_⟩
 · have := h0 hx'
   rw [this.1]
   exact ⟨by simp, hx hx'⟩
 · refine h3 j r ?_
   rw [List.getElem?_take] at hj
   split at hj
   · exact hj
   · cases hj
theorem ret_ti {u : Value} {a b c d : Int} (h : a = b) (h2 : c = d) : Ending.returned (.tuple #[u, .int .i64 a, .int .i64 c]) = .returned (.tuple #[u, .int .i64 b, .int .i64 d]) := by rw [h, h2]
set_option maxRecDepth 100000 in
set_option maxHeartbeats 4000000 in
theorem Times_cap (v : Vh) (vl vt : Value) (l : List (Int × Int)) (t : List Rq) (hl : l.length ≤ 1000000) (hnum : Nums l) (w : World) (hL : Row w.heap.size w vl l) (hT : Rqs w.heap.size w vt t) :
 Calls Tryz.prog 51 #[.agg #[.int .i64 v.hx, .int .i64 v.hy, .int .i64 v.cp, .int .i64 v.st, .int .i64 v.en], vl, vt] w fun e w' =>
  (∃ u, e = .returned (.tuple #[u, .int .i64 (homeT v l t), .int .i64 (errT v l t)]) ∧ Tms w'.heap.size w' u (timesL v l t) ∧ (errT v l t ≠ 0 → u = .slice none 0 0) ∧ (errT v l t = 0 → ∃ x, u = .slice x l.length l.length)) ∧ Below w.heap.size w w' := by
 have hb0 : Below w.heap.size w (w.alloc (.cells #[.int .i64 v.hx, .int .i64 v.hy, .int .i64 v.cp, .int .i64 v.st, .int .i64 v.en] 64)) := (Below.refl _ _).alloc (Nat.le_refl _) _
 have hc := check_any v vl vt l t hl hnum _ (hL.on hb0) (hT.on hb0)
 have hP := At.new w 64 #[.int .i64 v.hx, .int .i64 v.hy, .int .i64 v.cp, .int .i64 v.st, .int .i64 v.en]
 obtain ⟨xl, Nl, capl, rfl, hNl, hl0, hlc1, hlc2⟩ := hL.opened
 obtain ⟨xt, Nt, capt, rfl, hNt0, htc1, htc2, ht0⟩ := hT.opened
 have hNt := Lib.hid hNt0
 unfold maxLen at hlc2 htc2
 have hL' := Lib.hid hL
 have hT' := Lib.hid hT
 have hl' := Lib.hid hl
 have hNl1 : Nl ≤ 1000000 := by rw [hNl.out] at hl; exact hl
 clear hL hT hNt0 ht0 hl hnum
 obtain ⟨E, hE⟩ : ∃ E, wrongV v l t = E := ⟨_, rfl⟩
 rw [hE] at hc
 have hE' := Lib.hid hE
 clear hE
 go_enter Tryz.func51, Tryz.ntmps51
 go_wp2_with fail
 refine hc.mono ?_
 clear hc
 rintro e w1 ⟨rfl, hb1⟩
 have hB := hb0.trans (hb1.mono hb0.size)
 have hP1 := hP.keep hb1 hP.inside
 clear hb0 hb1 hP
 cases he0 : (E == 0)
 · have he1 : (E != 0) = true := by simpa using he0
   have hw : Hid (errT v l t = E ∧ errT v l t ≠ 0) := Lib.hid (by
    have h1 : wrongV v l t ≠ 0 := by rw [hE'.out]; simpa using he0
    rw [errT_wrong h1, hE'.out]
    exact ⟨rfl, by simpa using he0⟩)
   go_wp2
   refine bodyPost_ret (v := .tuple #[.slice none 0 0, .int .i64 0, .int .i64 E]) (by simp [results, Tryz.results51, go_sem]) rfl ?_
   exact ⟨⟨_, ret_ti (homeT_no hw.out.2).symm hw.out.1.symm, by rw [timesL_no hw.out.2]; exact RowB.nil _ _ _, fun _ => rfl, fun h => absurd h hw.out.2⟩, hB⟩
 · have he1 : (E != 0) = false := by simpa using he0
   have hz : wrongV v l t = 0 := by rw [hE'.out]; simpa using he0
   have hm := mild_of hz
   have hg := trip_good hz
   have p0 := hP1.cell 0
   have p1 := hP1.cell 1
   have p2 := hP1.cell 2
   have p3 := hP1.cell 3
   have p4 := hP1.cell 4
   have hPs := hP1.inside
   simp at p0 p1 p2 p3 p4
   have hz' := Lib.hid hz
   have hm' := Lib.hid hm
   have hg' := Lib.hid hg
   have hB' := Lib.hid hB
   have hsz : Hid (w.heap.size ≤ w1.heap.size) := Lib.hid hB.size
   clear hz hm hg hB hP1
   go_wp2_with fail
   refine (visits_any v xl xt Nl capl Nt capt _).mono ?_
   rintro e w2 ⟨rfl, hw2⟩
   have hs0 : (w1.alloc (.cells #[.int .i64 0, .int .i64 0, .int .i64 v.st, .int .i64 v.hx, .int .i64 v.hy] 138)).heap.size = w1.heap.size + 1 := by simp
   rw [hs0]
   have hS : At w2 w1.heap.size 138 #[.int .i64 0, .int .i64 0, .int .i64 v.st, .int .i64 v.hx, .int .i64 v.hy] := by rw [← hw2]; exact ((((At.new _ _ _).alloc _).alloc _).alloc _)
   have hv2 : At w2 (w1.heap.size + 1) 64 #[.int .i64 v.hx, .int .i64 v.hy, .int .i64 v.cp, .int .i64 v.st, .int .i64 v.en] := by rw [← hw2]; exact ((At.new_ _ _ _ (by simp)).alloc _).alloc _
   have hl2 : At w2 (w1.heap.size + 2) 59 #[.slice xl Nl capl] := by rw [← hw2]; exact (At.new_ _ _ _ (by simp)).alloc _
   have ht2 : At w2 (w1.heap.size + 3) 29 #[.slice xt Nt capt] := by rw [← hw2]; exact At.new_ _ _ _ (by simp)
   have hB2 : Below w1.heap.size w1 w2 := by rw [← hw2]; exact ((((Below.refl _ _).alloc (Nat.le_refl _) _).alloc (by simp) _).alloc (by simp; omega) _).alloc (by simp; omega) _
   have hBB : Below w.heap.size w w2 := hB'.out.trans (hB2.mono hsz.out)
   have htr := trip_any v l t hl'.out (.slice xl Nl capl) (.slice xt Nt capt) w1.heap.size (w1.heap.size + 2) (w1.heap.size + 3) (w1.heap.size + 1) w2 hm'.out hS
    ⟨hl2, ht2, hv2, (hL'.out.keep hBB (Nat.le_refl _)).more hsz.out, (hT'.out.keep hBB (Nat.le_refl _)).more hsz.out⟩ (by omega)
   rw [hg'.out] at htr
   clear hw2 hS hv2 hl2 ht2 hs0 p0 p1 p2 p3 p4
   go_wp2_with fail
   refine htr.mono ?_
   clear htr
   rintro e w3 ⟨⟨u, rfl, hu⟩, hb3⟩
   have hB3 : Below w.heap.size w w3 := (hB'.out.trans (hB2.mono hsz.out)).trans (hb3.mono hsz.out)
   clear hb3 hB2 hBB
   cases hok : okT v l t
   · have hw := Lib.hid (errT_late hz'.out hok)
     clear hu
     go_wp2
     refine bodyPost_ret (v := .tuple #[.slice none 0 0, .int .i64 0, .int .i64 9]) (by simp [results, Tryz.results51, go_sem]) rfl ?_
     exact ⟨⟨_, ret_ti (homeT_no (by rw [hw.out]; omega)).symm hw.out.symm, by rw [timesL_no (by rw [hw.out]; omega)]; exact RowB.nil _ _ _, fun _ => rfl, fun h => absurd h (by rw [hw.out]; omega)⟩, hB3⟩
   · have hw := Lib.hid (errT_ok hz'.out hok)
     have hu1 := hu hok
     rw [trip_tms] at hu1
     obtain ⟨x, N, cap, rfl, hN, hc1, hc2, hx⟩ := Tms.opened hu1
     have hrl := rowT_length v l t
     have hN2 : N = Nl + 1 := by rw [← hN, List.length_append, hrl, hNl.out]; rfl
     subst hN2
     obtain ⟨g, o, rfl, hg3, cA, c1, c2⟩ := Tms.at hu1 (k := Nl) (q := tmV (endA (sp0 v) (visL t l)) (homeV v)) (by rw [List.getElem?_append_right (by rw [hrl, hNl.out]; exact Nat.le_refl _), hrl, hNl.out]; simp)
     have hfin : Tms w3.heap.size w3 (.slice (some ⟨g, o, none⟩) Nl Nl) (timesL v l t) := by
      have := cutTo (k := Nl) hu1 (by rw [List.length_map]; exact hN) (Nat.le_succ _) Nl (Nat.le_refl _) (by unfold maxLen; omega) (fun h => by cases h)
      rw [← List.map_take] at this
      rw [timesL_ok hw.out]
      have e2 : (rowT v l t ++ [tmV (endA (sp0 v) (visL t l)) (homeV v)]).take Nl = rowT v l t := by
       rw [List.take_append_of_le_length (by rw [hrl, hNl.out]; exact Nat.le_refl _), List.take_of_length_le (by rw [hrl, hNl.out]; exact Nat.le_refl _)]
      rw [e2] at this
      exact this
     have c0 : w3.cell? ⟨g, o + Nl * 3, none⟩ = some (.int .i64 (endT v l t)) := cA
     have hfin' := Lib.hid hfin
     clear hu hu1 hfin hN hrl cA c1 c2 hx
     go_wp2_with fail
     go_quiet (fail)
     go_wp2
     refine bodyPost_ret (v := .tuple #[.slice (some ⟨g, o, none⟩) Nl Nl, .int .i64 (endT v l t), .int .i64 0]) (by simp [results, Tryz.results51, go_sem]) rfl ?_
     have hB9 := Place.below_drewN hB3 nq
     exact ⟨⟨_, ret_ti (homeT_ok hw.out).symm hw.out.symm, hfin'.out, fun h => absurd hw.out h, fun _ => ⟨_, by rw [hNl.out]⟩⟩, hB9⟩
theorem Times_all (v : Vh) (vl vt : Value) (l : List (Int × Int)) (t : List Rq) (hl : l.length ≤ 1000000) (hnum : Nums l) (w : World) (hL : Row w.heap.size w vl l) (hT : Rqs w.heap.size w vt t) :
 Calls Tryz.prog 51 #[.agg #[.int .i64 v.hx, .int .i64 v.hy, .int .i64 v.cp, .int .i64 v.st, .int .i64 v.en], vl, vt] w fun e w' =>
  (∃ u, e = .returned (.tuple #[u, .int .i64 (homeT v l t), .int .i64 (errT v l t)]) ∧ Tms w'.heap.size w' u (timesL v l t) ∧ (errT v l t ≠ 0 → u = .slice none 0 0)) ∧ Below w.heap.size w w' :=
 (Times_cap v vl vt l t hl hnum w hL hT).mono fun e w' ⟨⟨u, h1, h2, h3, _⟩, h4⟩ => ⟨⟨u, h1, h2, h3⟩, h4⟩
theorem Times_any (v : Vh) (vl vt : Value) (l : List (Int × Int)) (t : List Rq) (hl : l.length ≤ 1000000) (hnum : Nums l) (w : World) (hL : Row w.heap.size w vl l) (hT : Rqs w.heap.size w vt t) :
 Calls Tryz.prog 51 #[.agg #[.int .i64 v.hx, .int .i64 v.hy, .int .i64 v.cp, .int .i64 v.st, .int .i64 v.en], vl, vt] w fun e w' =>
  (∃ u, e = .returned (.tuple #[u, .int .i64 (homeT v l t), .int .i64 (errT v l t)]) ∧ Tms w'.heap.size w' u (timesL v l t)) ∧ Below w.heap.size w w' :=
 (Times_all v vl vt l t hl hnum w hL hT).mono fun e w' ⟨⟨u, h1, h2, _⟩, h3⟩ => ⟨⟨u, h1, h2⟩, h3⟩
end Go.Proofs.YtlbghdiebjldjaaGreatDoor.When
namespace Go.Proofs.YtlbghdiebjldjaaGreatDoor.Slack
open Go.Proofs.YtlbghdiebjldjaaGreatDoor.Order Go.Proofs.YtlbghdiebjldjaaGreatDoor.Place Go.Proofs.YtlbghdiebjldjaaGreatDoor.Window Go.Proofs.YtlbghdiebjldjaaGreatDoor.When
set_option linter.unusedVariables false
theorem okBs_less {a : Sp} {ys : List (Vi × Int)} {k : Nat} (h : okBs a (ys.take k) = false) : okBs a ys = false := by
 rw [← List.take_append_drop k ys, okBs_append, h]
 rfl
theorem take_succ_at {α : Type} {L : List α} {k : Nat} {q : α} (h : L[k]? = some q) : L.take (k + 1) = L.take k ++ [q] := by rw [List.take_add_one, h]; rfl
theorem visN_okv {v : Vh} {l : List (Int × Int)} {t : List Rq} (hf : Fine0 v l t) (k : Nat) : Okv (visN v t l k) := by
 unfold visN
 cases h : (visL t l)[k]? with
 | none => exact home_okv hf.veh
 | some x => exact hf.okv x (List.mem_of_getElem? h)
theorem pairs_at {v : Vh} {l : List (Int × Int)} {t : List Rq} {i by_ : Int} {k : Nat} (hk : k < l.length) : (pairs (visL t l) i by_)[k]? = some (visN v t l k, bmp i by_ k) := by
 have h : (visL t l)[k]? = some (visN v t l k) := by
  have : k < (visL t l).length := by simpa [visL] using hk
  unfold visN
  rw [List.getElem?_eq_getElem this]
  rfl
 exact pairs_get h
def endK (v : Vh) (l : List (Int × Int)) (t : List Rq) (i by_ : Int) (k : Nat) : Sp := endB (sp0 v) ((pairs (visL t l) i by_).take k)
def okK (v : Vh) (l : List (Int × Int)) (t : List Rq) (i by_ : Int) (k : Nat) : Bool := okBs (sp0 v) ((pairs (visL t l) i by_).take k)
def T0 (v : Vh) (l : List (Int × Int)) (t : List Rq) : List Tm := timesL v l t ++ [⟨homeT v l t, 0, 0⟩]
theorem endK_next {v : Vh} {l : List (Int × Int)} {t : List Rq} {i by_ : Int} {k : Nat} (hk : k < l.length) : endK v l t i by_ (k + 1) = goB (endK v l t i by_ k) (visN v t l k) (bmp i by_ k) := by
 unfold endK
 rw [take_succ_at (pairs_at (v := v) hk), endB_snoc]
theorem okK_next {v : Vh} {l : List (Int × Int)} {t : List Rq} {i by_ : Int} {k : Nat} (hk : k < l.length) : okK v l t i by_ (k + 1) = (okK v l t i by_ k && decide (beB (endK v l t i by_ k) (visN v t l k) (bmp i by_ k) ≤ (visN v t l k).wl)) := by
 unfold okK endK
 rw [take_succ_at (pairs_at (v := v) hk), okBs_snoc]
theorem okK_all {v : Vh} {l : List (Int × Int)} {t : List Rq} {i by_ : Int} : fromB v l t i by_ = (okK v l t i by_ l.length && decide (arV (endK v l t i by_ l.length) (homeV v) ≤ v.en)) := by
 unfold fromB okK endK
 rw [List.take_of_length_le (by rw [pairs_length]; simp [visL])]
theorem okK_bad {v : Vh} {l : List (Int × Int)} {t : List Rq} {i by_ : Int} {k : Nat} (h : okK v l t i by_ k = false) : fromB v l t i by_ = false := by
 unfold fromB
 rw [okBs_less h]
 rfl
theorem endK_bd {v : Vh} {l : List (Int × Int)} {t : List Rq} (hf : Fine0 v l t) {i by_ : Int} (hb : 0 ≤ by_) {k : Nat} (hk : k < l.length) (h : okK v l t i by_ (k + 1) = true) : 0 ≤ (endK v l t i by_ (k + 1)).now ∧ (endK v l t i by_ (k + 1)).now ≤ 1049576 := by
 rw [okK_next hk, Bool.and_eq_true, decide_eq_true_eq] at h
 rw [endK_next hk]
 have hx := visN_okv hf k
 generalize visN v t l k = x at *
 have h2 : (goB (endK v l t i by_ k) x (bmp i by_ k)).now = beB (endK v l t i by_ k) x (bmp i by_ k) + x.sv := rfl
 have h3 : beB (endK v l t i by_ k) x (bmp i by_ k) = max (arV (endK v l t i by_ k) x) x.we + bmp i by_ k := rfl
 have h4 : 0 ≤ bmp i by_ k := by unfold bmp; split <;> omega
 obtain ⟨a1, a2, a3, a4, a5⟩ := hx
 rw [h2]
 omega
end Go.Proofs.YtlbghdiebjldjaaGreatDoor.Slack
namespace Go.Proofs.YtlbghdiebjldjaaGreatDoor.Slack
open Go.RowKit Go.Sort Go.Proofs.YtlbghdiebjldjaaGreatDoor.Mem Go.Proofs.YtlbghdiebjldjaaGreatDoor.Route Go.Proofs.YtlbghdiebjldjaaGreatDoor.When
set_option linter.unusedVariables false
theorem flatT_append (A B : List Tm) : flatT (A ++ B) = flatT A ++ flatT B := by simp [flatT]
theorem flatT_cons (q : Tm) (B : List Tm) : flatT (q :: B) = tmC q ++ flatT B := by simp [flatT]
theorem flatT_set {A B : List Tm} {q q' : Tm} {j : Nat} {y : Value} (hj : j < 3) (e : (tmC q).set j y = tmC q') : (flatT (A ++ q :: B)).set (A.length * 3 + j) y = flatT (A ++ q' :: B) := by
 rw [flatT_append, flatT_append, flatT_cons, flatT_cons, List.set_append_right _ _ (by rw [flatT_length]; omega), flatT_length, show A.length * 3 + j - A.length * 3 = j by omega, List.set_append_left _ _ (by simpa [tmC] using hj), e]
theorem split_at {α : Type} {L : List α} {k : Nat} {q : α} (h : L[k]? = some q) : L = L.take k ++ q :: L.drop (k + 1) ∧ (L.take k).length = k := by
 obtain ⟨hk, rfl⟩ := List.getElem?_eq_some_iff.1 h
 exact ⟨by rw [← List.drop_eq_getElem_cons hk, List.take_append_drop], by simp; omega⟩
theorem set_split {α : Type} {L : List α} {k : Nat} {q q' : α} (h : L[k]? = some q) : L.set k q' = L.take k ++ q' :: L.drop (k + 1) := by
 obtain ⟨h1, h2⟩ := split_at h
 conv => lhs; rw [h1]
 rw [List.set_append_right _ _ (by omega), h2, Nat.sub_self]
 rfl
theorem flatT_put {L : List Tm} {k : Nat} {q q' : Tm} (h : L[k]? = some q) {j : Nat} {y : Value} (hj : j < 3) (e : (tmC q).set j y = tmC q') : (flatT L).set (k * 3 + j) y = flatT (L.set k q') := by
 obtain ⟨h1, h2⟩ := split_at h
 have h3 := flatT_set (A := L.take k) (B := L.drop (k + 1)) (q := q) hj e
 rw [h2, ← h1, ← set_split h] at h3
 exact h3
theorem flatT_get {L : List Tm} {k : Nat} {q : Tm} (h : L[k]? = some q) {j : Nat} {u : Value} (hj : (tmC q)[j]? = some u) : (flatT L)[k * 3 + j]? = some u :=
 flat_get (m := 3) (fun r hr => by obtain ⟨s, _, rfl⟩ := List.mem_map.1 hr; rfl) k (tmC q) (by rw [List.getElem?_map, h]; rfl) j u hj
def Own (W : World) (B g N c : Nat) (L : List Tm) : Prop := W.ownsRow B 136 3 (.slice (some ⟨g, 0, none⟩) N c) N (flatT L)
theorem Own.len {W : World} {B g N c : Nat} {L : List Tm} (h : Own W B g N c L) : L.length = N := by
 have := h.1
 rw [flatT_length] at this
 omega
theorem Own.block {W : World} {B g N c : Nat} {L : List Tm} (h : Own W B g N c L) : B ≤ g ∧ g < W.heap.size := World.ownsRow.lt h g rfl
theorem Own.at_ {W : World} {B g N c : Nat} {L : List Tm} (h : Own W B g N c L) : ∃ cs, At W g 136 cs := by
 rcases h.2 with ⟨h1, h0⟩ | ⟨k, cap, cur, h1, hb, hg, h2, h3, _⟩
 · cases h1
 · cases h1; exact ⟨_, hg⟩
theorem Own.keep {W W' : World} {B g N c : Nat} {L : List Tm} (h : Own W B g N c L) (hb : Below W.heap.size W W') : Own W' B g N c L := owns_below h hb
theorem Own.cap {W : World} {B g N c : Nat} {L : List Tm} (h : Own W B g N c L) : N ≤ c ∧ c ≤ maxLen := by
 rcases h.2 with ⟨h1, h0⟩ | ⟨k, cap, cur, h1, hb, hg, h2, h3, _⟩
 · cases h1
 · cases h1; exact ⟨h2, h3⟩
theorem Own.get {W : World} {B g N c : Nat} {L : List Tm} (h : Own W B g N c L) {k : Nat} {q : Tm} (hk : L[k]? = some q) {j : Nat} {u : Value} (hj : (tmC q)[j]? = some u) : W.cell? ⟨g, k * 3 + j, none⟩ = some u := by
 have hl := h.len
 have hk1 := (List.getElem?_eq_some_iff.1 hk).1
 have hj1 : j < 3 := by simpa [tmC] using (List.getElem?_eq_some_iff.1 hj).1
 rw [World.ownsRow.cellAt h _ (by omega)]
 exact flatT_get hk hj
theorem Own.put {W : World} {B g N c : Nat} {L : List Tm} (h : Own W B g N c L) {k : Nat} {q q' : Tm} (hk : L[k]? = some q) {j : Nat} {y : Value} (hj : j < 3) (e : (tmC q).set j y = tmC q') : Own (W.setCell ⟨g, k * 3 + j, none⟩ y) B g N c (L.set k q') := by
 have := (World.ownsRow.stored h (k * 3 + j) y).1
 rw [flatT_put hk hj e] at this
 exact this
theorem Own.free {W : World} {B g N c : Nat} {L : List Tm} (h : Own W B g N c L) (j : Nat) : W.frozen? ⟨g, j, none⟩ = false := World.ownsRow.frozenAt h j
theorem At.off {W W' : World} {g b : Nat} {t : TypeId} {cs : Array Value} (h : At W g t cs) (hg : W.grownBy W' (some b)) (hne : g ≠ b) : At W' g t cs := (hg.block g h.inside (fun e => hne (by cases e; rfl))).trans h
def VC (ks : List Value) (i : Nat) (v : Value) (_ : World) : Prop := ∀ u, ks[i]? = some u → v = u
theorem VC.mk {ks : List Value} {i : Nat} {u v : Value} {w : World} (h : ks[i]? = some u) (e : v = u) : VC ks i v w := fun k hk => by rw [h] at hk; cases hk; exact e
def ZR (s : Nat) (P0 P1 : World → Prop) (done : Nat → Bool) (_ : Nat → Value) (W : World) : Prop := (done s = false → P0 W) ∧ (done s = true → P1 W)
theorem ZR.start {s : Nat} {P0 P1 : World → Prop} {ys : Nat → Value} {W : World} (h : P0 W) : ZR s P0 P1 (fun _ => false) ys W := ⟨fun _ => h, fun h => by cases h⟩
theorem ZR.light {s k : Nat} {P0 P1 : World → Prop} {done : Nat → Bool} {ys ys' : Nat → Value} {W : World} (h : ZR s P0 P1 done ys W) (hk : s ≠ k) : ZR s P0 P1 (Sched.mark done k) ys' W := by
 unfold ZR
 rw [show Sched.mark done k s = done s by simp [Sched.mark, hk]]
 exact h
theorem ZR.put {s : Nat} {P0 P1 : World → Prop} {done : Nat → Bool} {ys' : Nat → Value} {W' : World} (h : P1 W') : ZR s P0 P1 (Sched.mark done s) ys' W' := by
 unfold ZR
 rw [show Sched.mark done s s = true by simp [Sched.mark]]
 exact ⟨fun h => (by cases h), fun _ => h⟩
end Go.Proofs.YtlbghdiebjldjaaGreatDoor.Slack

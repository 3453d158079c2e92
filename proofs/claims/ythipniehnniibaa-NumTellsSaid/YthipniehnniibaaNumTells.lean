/-
  consignlaw01.NumTells returns true for all numbers: what two numbers make together, one less the other, and times the other, and whether it fits, is as the answer's own wide numbers say. No condition. (Written by gen_tells.py.)
-/
import Derived.Test.YthipniehnniibaaNumWide6
import Derived.Test.YthipniehnniibaaNumWorks
import Derived.Test.YthipniehnniibaaOpen
import Derived.Deep.RegionHeld3
import Derived.Deep.RegionWith
import Derived.Deep.DeepCutAuto
import Derived.Deep.Light
namespace Go.Proofs.Ythipniehnniibaa.numTells
open Go.ChangeShapes Go.WideShapes Go.ChangeAt Go.RowKit Go.Proofs.Ythipniehnniibaa.Num Go.Proofs.Ythipniehnniibaa.Mem
set_option linter.unusedVariables false

theorem Of_at (n : Int) (s : Bool) (a b : Int) (w : World) (h1 : -9223372036854775808 ≤ n) (h2 : n ≤ 9223372036854775807) (h : ofV n = .agg #[.bool s, .int .u64 a, .int .u64 b, .int .u64 0, .int .u64 0]) :
    Calls Try.prog 8 #[.int .i64 n] w fun e w' => e = .returned (.agg #[.bool s, .int .u64 a, .int .u64 b, .int .u64 0, .int .u64 0]) ∧
      (w.alloc (.cells #[.bool s, .int .u64 a, .int .u64 b, .int .u64 0, .int .u64 0] 29)).alloc (.cells #[.bool s, .int .u64 a, .int .u64 b, .int .u64 0, .int .u64 0] 29) = w' := by
  have h' : (#[.bool (decide (n < 0)), .int .u64 (far n % 4294967296), .int .u64 (far n / 4294967296), .int .u64 0, .int .u64 0] : Array Value) = #[.bool s, .int .u64 a, .int .u64 b, .int .u64 0, .int .u64 0] := by
    have := h
    unfold ofV wide at this
    exact Value.agg.inj this
  exact (Of_exact n w h1 h2).mono fun _ _ ⟨he, hw⟩ => ⟨by rw [he, h], by rw [hw, h']⟩
theorem Neg_at (m : Int) (v : Value) (w : World) (h : ofV m = v) :
    Calls Try.prog 13 #[v] w fun e w' => e = .returned (negV m) ∧ Below w.heap.size w w' := by
  subst h; exact Neg_of m w
theorem WAdd_at (n m : Int) (v u : Value) (w : World) (n1 : -9223372036854775808 ≤ n) (n2 : n ≤ 9223372036854775807) (m1 : -9223372036854775808 ≤ m) (m2 : m ≤ 9223372036854775807) (hv : ofV n = v) (hu : ofV m = u) :
    Calls Try.prog 11 #[v, u] w (SomeWide w (n + m)) := by
  subst hv hu; exact Add_ofs n m w n1 n2 m1 m2
theorem WSub_at (n m : Int) (v : Value) (w : World) (n1 : -9223372036854775808 ≤ n) (n2 : n ≤ 9223372036854775807) (m1 : -9223372036854775808 ≤ m) (m2 : m ≤ 9223372036854775807) (hv : ofV n = v) :
    Calls Try.prog 11 #[v, negV m] w (SomeWide w (n - m)) := by
  subst hv; exact Add_neg n m w n1 n2 m1 m2
theorem WMul_at (n m : Int) (v u : Value) (w : World) (n1 : -9223372036854775808 ≤ n) (n2 : n ≤ 9223372036854775807) (m1 : -9223372036854775808 ≤ m) (m2 : m ≤ 9223372036854775807) (hv : ofV n = v) (hu : ofV m = u) :
    Calls Try.prog 15 #[v, u] w (SomeWide w (n * m)) := by
  subst hv hu; exact Mul_ofs n m w n1 n2 m1 m2

/-- What a round has laid: the pair, and both as wide numbers. -/
def Ctx (gx gp gq : Nat) (w0 : World) (p q : Int) (sp : Bool) (p0 p1 : Int) (sq : Bool) (q0 q1 : Int) (W : World) : Prop :=
  At W gx 24 #[.int .i64 p, .int .i64 q] ∧ At W gp 29 #[.bool sp, .int .u64 p0, .int .u64 p1, .int .u64 0, .int .u64 0] ∧ At W gq 29 #[.bool sq, .int .u64 q0, .int .u64 q1, .int .u64 0, .int .u64 0] ∧ Below w0.heap.size w0 W

theorem four (x : Int) (h1 : 0 ≤ x) {V : World} {g : Nat} {t : TypeId} (h : At V g t #[.int .i64 0, .int .i64 4294967296, .int .i64 (-9223372036854775808), .int .i64 9223372036854775807]) :
    ∃ e : Int, V.cell? ⟨g, (x % 4).toNat, none⟩ = some (.int .i64 e) := by
  have hc : (x % 4).toNat = 0 ∨ (x % 4).toNat = 1 ∨ (x % 4).toNat = 2 ∨ (x % 4).toNat = 3 := by omega
  rcases hc with e | e | e | e
  · exact ⟨0, by rw [e]; exact h.cell 0⟩
  · exact ⟨4294967296, by rw [e]; exact h.cell 1⟩
  · exact ⟨-9223372036854775808, by rw [e]; exact h.cell 2⟩
  · exact ⟨9223372036854775807, by rw [e]; exact h.cell 3⟩

theorem keep3 {g : Nat} {p q : Int} {w0 W V : World} (hk : Below W.heap.size W V) (h : W.cell? ⟨g, 0, none⟩ = some (.int .i64 p) ∧ W.cell? ⟨g, 1, none⟩ = some (.int .i64 q) ∧ Below w0.heap.size w0 W ∧ g < W.heap.size) :
    V.cell? ⟨g, 0, none⟩ = some (.int .i64 p) ∧ V.cell? ⟨g, 1, none⟩ = some (.int .i64 q) ∧ Below w0.heap.size w0 V ∧ g < V.heap.size :=
  ⟨(hk.cell (p := ⟨g, 0, none⟩) h.2.2.2).trans h.1, (hk.cell (p := ⟨g, 1, none⟩) h.2.2.2).trans h.2.1, h.2.2.1.trans (hk.mono h.2.2.1.size), Nat.lt_of_lt_of_le h.2.2.2 hk.size⟩

theorem keep4 {g : Nat} {p q : Int} {w0 W : World} {o : Obj} (h : W.cell? ⟨g, 0, none⟩ = some (.int .i64 p) ∧ W.cell? ⟨g, 1, none⟩ = some (.int .i64 q) ∧ Below w0.heap.size w0 W ∧ g < W.heap.size) :
    (W.alloc o).cell? ⟨g, 0, none⟩ = some (.int .i64 p) ∧ (W.alloc o).cell? ⟨g, 1, none⟩ = some (.int .i64 q) ∧ Below w0.heap.size w0 (W.alloc o) ∧ g < (W.alloc o).heap.size :=
  keep3 ((Below.refl _ _).alloc (Nat.le_refl _) _) h
theorem keep5 {g : Nat} {p q : Int} {w0 W : World} {o u : Obj} (h : Hid (W.cell? ⟨g, 0, none⟩ = some (.int .i64 p) ∧ W.cell? ⟨g, 1, none⟩ = some (.int .i64 q) ∧ Below w0.heap.size w0 W ∧ g < W.heap.size)) :
    ((W.alloc o).alloc u).cell? ⟨g, 0, none⟩ = some (.int .i64 p) ∧ ((W.alloc o).alloc u).cell? ⟨g, 1, none⟩ = some (.int .i64 q) ∧ Below w0.heap.size w0 ((W.alloc o).alloc u) ∧ g < ((W.alloc o).alloc u).heap.size := keep4 (keep4 h.out)

theorem rules {W V : World} (h : Below W.heap.size W V) :
    (∀ b o, b < W.heap.size → V.cell? ⟨b, o, none⟩ = W.cell? ⟨b, o, none⟩) ∧ (∀ b o, b < W.heap.size → V.frozen? ⟨b, o, none⟩ = W.frozen? ⟨b, o, none⟩) ∧
    (∀ b, b < W.heap.size → b < V.heap.size) ∧ (∀ b k, b < W.heap.size → b < V.heap.size + k) ∧ (∀ b, b < W.heap.size → (b = V.heap.size) = False) :=
  ⟨fun _ _ hb => h.cell hb, fun _ _ hb => h.frozen hb, fun _ hb => Nat.lt_of_lt_of_le hb h.size, fun _ k hb => Nat.lt_of_lt_of_le hb (Nat.le_trans h.size (Nat.le_add_right _ k)),
    fun _ hb => eq_false (fun e => by have := h.size; omega)⟩

theorem cell_old {W : World} {a : Addr} {v : Value} {o : Obj} (h : W.cell? a = some v) : (W.alloc o).cell? a = some v :=
  (World.cell?_alloc_lt W o a (block_lt_of_cell h)).trans h
theorem cell_drew {W : World} {a : Addr} {v : Value} (h : W.cell? a = some v) : W.drew.cell? a = some v := h

theorem Ctx.keep {gx gp gq : Nat} {w0 : World} {p q : Int} {sp : Bool} {p0 p1 : Int} {sq : Bool} {q0 q1 : Int} {W V : World} (h : Ctx gx gp gq w0 p q sp p0 p1 sq q0 q1 W) (hk : Below W.heap.size W V) : Ctx gx gp gq w0 p q sp p0 p1 sq q0 q1 V :=
  ⟨h.1.keep hk h.1.inside, h.2.1.keep hk h.2.1.inside, h.2.2.1.keep hk h.2.2.1.inside, h.2.2.2.trans (hk.mono h.2.2.2.size)⟩
theorem Ctx.drew_ {gx gp gq : Nat} {w0 : World} {p q : Int} {sp : Bool} {p0 p1 : Int} {sq : Bool} {q0 q1 : Int} {W : World} (h : Ctx gx gp gq w0 p q sp p0 p1 sq q0 q1 W) : Ctx gx gp gq w0 p q sp p0 p1 sq q0 q1 W.drew :=
  ⟨h.1.drew, h.2.1.drew, h.2.2.1.drew, h.2.2.2.drew⟩
theorem Ctx.facts {gx gp gq : Nat} {w0 : World} {p q : Int} {sp : Bool} {p0 p1 : Int} {sq : Bool} {q0 q1 : Int} {W : World} (h : Ctx gx gp gq w0 p q sp p0 p1 sq q0 q1 W) :
    W.cell? ⟨gx, 0, none⟩ = some (.int .i64 p) ∧ W.cell? ⟨gx, 1, none⟩ = some (.int .i64 q) ∧ W.cell? ⟨gp, 0, none⟩ = some (.bool sp) ∧ W.cell? ⟨gp, 1, none⟩ = some (.int .u64 p0) ∧ W.cell? ⟨gp, 2, none⟩ = some (.int .u64 p1) ∧ W.cell? ⟨gp, 3, none⟩ = some (.int .u64 0) ∧ W.cell? ⟨gp, 4, none⟩ = some (.int .u64 0) ∧ W.cell? ⟨gq, 0, none⟩ = some (.bool sq) ∧ W.cell? ⟨gq, 1, none⟩ = some (.int .u64 q0) ∧ W.cell? ⟨gq, 2, none⟩ = some (.int .u64 q1) ∧ W.cell? ⟨gq, 3, none⟩ = some (.int .u64 0) ∧ W.cell? ⟨gq, 4, none⟩ = some (.int .u64 0) :=
  ⟨h.1.cell 0, h.1.cell 1, h.2.1.cell 0, h.2.1.cell 1, h.2.1.cell 2, h.2.1.cell 3, h.2.1.cell 4, h.2.2.1.cell 0, h.2.2.1.cell 1, h.2.2.1.cell 2, h.2.2.1.cell 3, h.2.2.1.cell 4⟩
theorem keep10 {W V : World} {a0 a1 a2 a3 a4 a5 a6 a7 a8 a9 : Addr} {v0 v1 v2 v3 v4 v5 v6 v7 v8 v9 : Value} (hk : Below W.heap.size W V)
    (h : W.cell? a0 = some v0 ∧ W.cell? a1 = some v1 ∧ W.cell? a2 = some v2 ∧ W.cell? a3 = some v3 ∧ W.cell? a4 = some v4 ∧ W.cell? a5 = some v5 ∧ W.cell? a6 = some v6 ∧ W.cell? a7 = some v7 ∧ W.cell? a8 = some v8 ∧ W.cell? a9 = some v9) :
    V.cell? a0 = some v0 ∧ V.cell? a1 = some v1 ∧ V.cell? a2 = some v2 ∧ V.cell? a3 = some v3 ∧ V.cell? a4 = some v4 ∧ V.cell? a5 = some v5 ∧ V.cell? a6 = some v6 ∧ V.cell? a7 = some v7 ∧ V.cell? a8 = some v8 ∧ V.cell? a9 = some v9 := by
  have hc : ∀ {a : Addr} {v : Value}, W.cell? a = some v → V.cell? a = some v := fun h => (hk.cell (block_lt_of_cell h)).trans h
  obtain ⟨h0, h1, h2, h3, h4, h5, h6, h7, h8, h9⟩ := h
  exact ⟨hc h0, hc h1, hc h2, hc h3, hc h4, hc h5, hc h6, hc h7, hc h8, hc h9⟩

theorem parts (n : Int) : ∃ (s : Bool) (a b : Int), ofV n = .agg #[.bool s, .int .u64 a, .int .u64 b, .int .u64 0, .int .u64 0] := ⟨_, _, _, rfl⟩

set_option maxRecDepth 100000 in
set_option maxHeartbeats 40000000 in
theorem walk (a b x y : Int) (w : World) (ha1 : -9223372036854775808 ≤ a) (ha2 : a ≤ 9223372036854775807) (hb1 : -9223372036854775808 ≤ b) (hb2 : b ≤ 9223372036854775807)
    (hx1 : 0 ≤ x) (hx2 : x ≤ 255) (hy1 : 0 ≤ y) (hy2 : y ≤ 255) :
    Calls Try.prog 3 #[.int .i64 a, .int .i64 b, .agg #[.int .u8 x, .int .u8 y]] w fun e w' => e = .returned (.bool true) ∧ Below w.heap.size w w' := by
  have k0 : At ((w.alloc (Obj.cells #[Value.int IntKind.u8 x, Value.int IntKind.u8 y] 22)).alloc (Obj.cells #[Value.int IntKind.i64 0, Value.int IntKind.i64 4294967296, Value.int IntKind.i64 (-9223372036854775808), Value.int IntKind.i64 9223372036854775807] 23)) (w.heap.size + 1) 23 _ := At.new_ _ _ _ (by simp)
  obtain ⟨e0, he0⟩ := four x hx1 k0
  obtain ⟨e1, he1⟩ := four y hy1 k0
  clear k0
  obtain ⟨c, hc⟩ : ∃ c, wrap64 (wrap64 (e0 + x / 4) - 31) = c := ⟨_, rfl⟩
  obtain ⟨d, hd⟩ : ∃ d, wrap64 (wrap64 (e1 - y / 4) + 31) = d := ⟨_, rfl⟩
  obtain ⟨_, -, hc1, hc2⟩ := wrap64_cases (wrap64 (e0 + x / 4) - 31)
  obtain ⟨_, -, hd1, hd2⟩ := wrap64_cases (wrap64 (e1 - y / 4) + 31)
  rw [hc] at hc1 hc2
  rw [hd] at hd1 hd2
  go_enter Try.func3, Try.ntmps3
  go_wp2_with fail
  go_region
  go_wp2
  go_region
  go_wp2
  have hpair : ∀ k : Nat, k < 3 → ∃ p q : Int, (-9223372036854775808 ≤ p ∧ p ≤ 9223372036854775807 ∧ -9223372036854775808 ≤ q ∧ q ≤ 9223372036854775807) ∧ ∀ w, (Instr.index 25 (.agg #[.int .i64 a, .int .i64 b, .int .i64 c, .int .i64 d, .int .i64 a, .int .i64 d]) (.int .i64 k)).run Try.prog w = .ok (.agg #[.int .i64 p, .int .i64 q]) w := by
    intro k hk
    match k, hk with
    | 0, _ => exact ⟨a, b, ⟨ha1, ha2, hb1, hb2⟩, fun _ => by kernel_rfl⟩
    | 1, _ => exact ⟨c, d, ⟨hc1, hc2, hd1, hd2⟩, fun _ => by kernel_rfl⟩
    | 2, _ => exact ⟨a, d, ⟨ha1, ha2, hd1, hd2⟩, fun _ => by kernel_rfl⟩
  have hpair' := Lib.hid hpair
  clear he0 he1 hc hd hpair
  have hw0 : Below w.heap.size w ((w.alloc (Obj.cells #[Value.int IntKind.u8 x, Value.int IntKind.u8 y] 22)).alloc (Obj.cells #[Value.int IntKind.i64 0, Value.int IntKind.i64 4294967296, Value.int IntKind.i64 (-9223372036854775808), Value.int IntKind.i64 9223372036854775807] 23)).drew.drew := by
    repeat (first | exact Below.refl _ _ | refine Below.drew ?_ | refine Below.alloc ?_ (by simp) _)
  go_loopw [59] (fun i wr => ∃ k : Nat, k ≤ 3 ∧ i = .int .i64 k ∧ Below w.heap.size w wr) (fun i _ => 3 - (intOf i).toNat)
  case atStart => exact ⟨0, by omega, rfl, hw0⟩
  case round =>
    clear hw0
    obtain ⟨k, hk, rfl, hnx⟩ := hrel
    by_cases hlt : k < 3
    · obtain ⟨p, q, ⟨hp1, hp2, hq1, hq2⟩, hidx⟩ := hpair'.out k hlt
      obtain ⟨sp, p0, p1, hP⟩ := parts p
      obtain ⟨sq, q0, q1, hQ⟩ := parts q
      have HP := Lib.hid hP
      have HQ := Lib.hid hQ
      clear hP hQ
      have hs := hnx.size
      have c0 : (wr.alloc (.cells #[.int .i64 p, .int .i64 q] 24)).cell? ⟨wr.heap.size, 0, none⟩ = some (.int .i64 p) := (At.new wr _ _).cell 0
      have c1 : (wr.alloc (.cells #[.int .i64 p, .int .i64 q] 24)).cell? ⟨wr.heap.size, 1, none⟩ = some (.int .i64 q) := (At.new wr _ _).cell 1
      go_upto_region 7 with fail
      go_cut [11, 12, 13] (fun s11 s12 s13 wx => ∃ gx gp gq : Nat, s11 = .pointer (some ⟨gx, 0, none⟩) ∧ s12 = .pointer (some ⟨gp, 0, none⟩) ∧ s13 = .pointer (some ⟨gq, 0, none⟩) ∧ Ctx gx gp gq w p q sp p0 p1 sq q0 q1 wx)
      case first =>
        clear ha1 ha2 hb1 hb2 hx1 hx2 hy1 hy2 hc1 hc2 hd1 hd2 hidx hpair'
        go_region_held3 (fun w' => w'.cell? ⟨wr.heap.size, 0, none⟩ = some (.int .i64 p) ∧ w'.cell? ⟨wr.heap.size, 1, none⟩ = some (.int .i64 q)) ((refine ⟨?_, ?_⟩ <;> repeat (first | exact c0 | exact c1 | apply cell_drew | apply cell_old)))
          (first
            | (go_at_call_of 8 (Value.int IntKind.i64 p); refine (Of_at _ sp p0 p1 _ hp1 hp2 HP.out).mono ?_; rintro e w' ⟨rfl, rfl⟩)
            | (go_at_call_of 8 (Value.int IntKind.i64 q); refine (Of_at _ sq q0 q1 _ hq1 hq2 HQ.out).mono ?_; rintro e w' ⟨rfl, rfl⟩))
        all_goals
          go_wp2_with fail
          go_meet
          refine ⟨wr.heap.size, _, _, rfl, rfl, rfl, ?_, ?_, ?_, ?_⟩
          · repeat (first | (refine At.new_ _ _ _ ?_; simp; done) | apply At.drew | apply At.alloc)
          · repeat (first | (refine At.new_ _ _ _ ?_; simp; done) | apply At.drew | apply At.alloc)
          · repeat (first | (refine At.new_ _ _ _ ?_; simp; done) | apply At.drew | apply At.alloc)
          · refine hnx.trans (Below.mono (B := wr.heap.size) ?_ hs)
            repeat (first | exact Below.refl _ _ | refine Below.drew ?_ | refine Below.alloc ?_ (by simp <;> omega) _)
      case rest =>
        obtain ⟨gx, gp, gq, rfl, rfl, rfl, hC⟩ := hcut
        clear c0 c1
        have K0 := Lib.hid hC
        clear hC
        obtain ⟨x0, x1, y0, y1, y2, y3, y4, z0, z1, z2, z3, z4⟩ := K0.out.facts
        go_wp2_with fail
        refine (Add_any p q hp1 hp2 hq1 hq2 _).mono ?_
        rintro e w1 ⟨rfl, hb1⟩
        have K1 := Lib.hid (K0.out.keep hb1)
        clear x0 x1 y0 y1 y2 y3 y4 z0 z1 z2 z3 z4 hb1
        obtain ⟨x0, x1, y0, y1, y2, y3, y4, z0, z1, z2, z3, z4⟩ := K1.out.facts
        go_wp2_with fail
        refine (WAdd_at p q _ _ _ hp1 hp2 hq1 hq2 HP.out HQ.out).mono ?_
        rintro e w2 ⟨⟨v2, rfl, hv2⟩, hb2⟩
        have K2 := Lib.hid (K1.out.keep hb2)
        clear x0 x1 y0 y1 y2 y3 y4 z0 z1 z2 z3 z4 hb2
        obtain ⟨x0, x1, y0, y1, y2, y3, y4, z0, z1, z2, z3, z4⟩ := K2.out.facts
        go_wp2_with fail
        refine (Fits_any v2 _ hv2 _).mono ?_
        rintro e w3 ⟨rfl, hb3⟩
        clear hv2
        have K3 := Lib.hid (K2.out.keep hb3)
        clear x0 x1 y0 y1 y2 y3 y4 z0 z1 z2 z3 z4 hb3
        obtain ⟨x0, x1, y0, y1, y2, y3, y4, z0, z1, z2, z3, z4⟩ := K3.out.facts
        go_wp2_with fail
        refine (Sub_any p q hp1 hp2 hq1 hq2 _).mono ?_
        rintro e w4 ⟨rfl, hb4⟩
        have K4 := Lib.hid (K3.out.keep hb4)
        clear x0 x1 y0 y1 y2 y3 y4 z0 z1 z2 z3 z4 hb4
        obtain ⟨x0, x1, y0, y1, y2, y3, y4, z0, z1, z2, z3, z4⟩ := K4.out.facts
        go_wp2_with fail
        go_region_held3 (fun w' => w'.cell? ⟨gp, 0, none⟩ = some (.bool sp) ∧ w'.cell? ⟨gp, 1, none⟩ = some (.int .u64 p0) ∧ w'.cell? ⟨gp, 2, none⟩ = some (.int .u64 p1) ∧ w'.cell? ⟨gp, 3, none⟩ = some (.int .u64 0) ∧ w'.cell? ⟨gp, 4, none⟩ = some (.int .u64 0) ∧ w'.cell? ⟨gq, 0, none⟩ = some (.bool sq) ∧ w'.cell? ⟨gq, 1, none⟩ = some (.int .u64 q0) ∧ w'.cell? ⟨gq, 2, none⟩ = some (.int .u64 q1) ∧ w'.cell? ⟨gq, 3, none⟩ = some (.int .u64 0) ∧ w'.cell? ⟨gq, 4, none⟩ = some (.int .u64 0)) (first | exact ⟨y0, y1, y2, y3, y4, z0, z1, z2, z3, z4⟩ | (apply keep10; assumption; assumption))
          (first
            | (go_at_call 13; refine (Neg_at q _ _ HQ.out).mono ?_; rintro e w5 ⟨rfl, hb5⟩)
            | (go_at_call 11; refine (WSub_at p q _ _ hp1 hp2 hq1 hq2 HP.out).mono ?_; rintro e w6 ⟨⟨v6, rfl, hv6⟩, hb6⟩)
            | (go_at_call 10; refine (Fits_any _ _ (by assumption) _).mono ?_; rintro e w7 ⟨rfl, hb7⟩))
        have K7 := Lib.hid (((K4.out.drew_.keep hb5).keep hb6).keep hb7)
        clear x0 x1 y0 y1 y2 y3 y4 z0 z1 z2 z3 z4 hb5 hb6 hb7 hv6
        obtain ⟨x0, x1, y0, y1, y2, y3, y4, z0, z1, z2, z3, z4⟩ := K7.out.facts
        go_wp2_with fail
        refine (Mul_any p q hp1 hp2 hq1 hq2 _).mono ?_
        rintro e w8 ⟨rfl, hb8⟩
        have K8 := Lib.hid (K7.out.keep hb8)
        clear x0 x1 y0 y1 y2 y3 y4 z0 z1 z2 z3 z4 hb8
        obtain ⟨x0, x1, y0, y1, y2, y3, y4, z0, z1, z2, z3, z4⟩ := K8.out.facts
        go_wp2_with fail
        refine (WMul_at p q _ _ _ hp1 hp2 hq1 hq2 HP.out HQ.out).mono ?_
        rintro e w9 ⟨⟨v9, rfl, hv9⟩, hb9⟩
        have K9 := Lib.hid (K8.out.keep hb9)
        clear x0 x1 y0 y1 y2 y3 y4 z0 z1 z2 z3 z4 hb9
        obtain ⟨x0, x1, y0, y1, y2, y3, y4, z0, z1, z2, z3, z4⟩ := K9.out.facts
        go_wp2_with fail
        refine (Fits_any v9 _ hv9 _).mono ?_
        rintro e w10 ⟨rfl, hb10⟩
        clear hv9
        have K10 := Lib.hid (K9.out.keep hb10)
        clear x0 x1 y0 y1 y2 y3 y4 z0 z1 z2 z3 z4 hb10
        obtain ⟨x0, x1, y0, y1, y2, y3, y4, z0, z1, z2, z3, z4⟩ := K10.out.facts
        go_wp2_with fail
        have hB := Lib.hid K10.out.2.2.2
        clear x0 x1 y0 y1 y2 y3 y4 z0 z1 z2 z3 z4
        go_wp2
        go_roundw
        case rel => exact ⟨k + 1, by omega, by go_num, hB.out⟩
        case measure => simp [intOf]; omega
    · obtain rfl : k = 3 := by omega
      go_wp2_with fail
      refine (works_any _).mono ?_
      rintro e w1 ⟨rfl, hb1⟩
      go_wp2_with fail
      go_ret
      exact ⟨rfl, hnx.trans (hb1.mono hnx.size)⟩

set_option maxRecDepth 100000 in
theorem lifted (os : Os) (started : os.Started) (H : Type) (enc : TypeId × Value → H) :
    ReturnsInHanded {} Try.checked os 3 .any (Rows.numTellsSpec.pre6 enc Try.prog Try.f3 Rows.numTellsRow.domain false) (Rows.numTellsSpec.post enc Try.prog Try.f3 false true false false) := by
  refine returnsInHanded_of_change (C := Try.checked) own started (by kernel_rfl) Try.func3
    (ChangeSpec.witness6 (enc := enc) (C := Try.checked) false ⟨#[], #[.int .i64 0, .int .i64 0, .agg #[.int .u8 0, .int .u8 0]], []⟩ 8 (by kernel_rfl) (by kernel_rfl) (by kernel_rfl) (by kernel_rfl)) ?_
  intro W base args ds gs before hval0 hW hcnd _
  have hval : ∀ (j : Nat) t v, Try.f3.params[j]? = some t → args[j]? = some v → Value.okWide Try.prog W .any base t v := hval0
  have hW' := hW
  obtain ⟨p, q, hA0, hV, rfl, hfz, hnd⟩ := hW
  have hA : DataW.TrodAll enc Try.prog W 0 (fun _ => true) true Try.f3.params.toList args.toList ds p := hA0
  rw [Try.params3] at hA hval
  obtain ⟨v0, vs0, d0, ds0, p0, q0, hargs, rfl, rfl, h0, r0⟩ := trodAll_cons hA
  obtain ⟨v1, vs1, d1, ds1, p1, q1, rfl, rfl, rfl, h1, r1⟩ := trodAll_cons r0
  obtain ⟨v2, vs2, d2, ds2, p2, q2, rfl, rfl, rfl, h2, r2⟩ := trodAll_cons r1
  obtain ⟨rfl, rfl, rfl⟩ := trodAll_nil r2
  obtain rfl : args = #[v0, v1, v2] := by cases args; simp_all
  obtain ⟨rfl, rfl⟩ := trodVars_none hV
  obtain ⟨a0, rfl, rfl, rfl, w0⟩ := open_int Try.underlying2 (hval 0 2 v0 rfl rfl) h0
  obtain ⟨a1, rfl, rfl, rfl, w1⟩ := open_int Try.underlying2 (hval 1 2 v1 rfl rfl) h1
  obtain ⟨xs, hl, hv2, hxs⟩ := Close.open_numbers Try.underlying22 Try.underlying5 (by kernel_rfl) (by kernel_rfl) (hval 2 22 v2 rfl rfl) h2
  match xs, hl, hv2, hxs with
  | [x, y], _, hv2, hxs =>
    obtain rfl : v2 = .agg #[.int .u8 x, .int .u8 y] := hv2
    obtain ⟨x1, x2⟩ := bounds_u8 (hxs x (by simp))
    obtain ⟨y1, y2⟩ := bounds_u8 (hxs y (by simp))
    obtain ⟨u1, u2⟩ := bounds_i64 w0
    obtain ⟨u3, u4⟩ := bounds_i64 w1
    exact (walk a0 a1 x y W u1 u2 u3 u4 x1 x2 y1 y2).mono fun e W' ⟨he, hb⟩ => ⟨_, he, Close.law_post laidOut (by kernel_rfl) rfl (by kernel_rfl) Try.underlying4 hW' rfl hb⟩

theorem over : Rows.numTellsRow.holds Try.pinned (OpenSpec.ofChange Rows.numTellsSpec) :=
  OpenClaim.holds_of_wide 3 Try.f3 rfl rfl rfl rfl rfl rfl rfl ⟨rfl, rfl, rfl, rfl, rfl⟩ rfl rfl rfl rfl rfl (by kernel_rfl) Try.func3 (by kernel_rfl)
    (of_decide_eq_true (by kernel_rfl)) (by unfold Func.isWrapper; first | (rw [if_pos (by decide +kernel)]; kernel_rfl) | (rw [if_neg (by decide +kernel)]; exact ⟨rfl, rfl⟩))
    (fun os started H enc _ => lifted os started H enc)

theorem proved : Rows.NumTellsSaid := over
#print axioms proved

end Go.Proofs.Ythipniehnniibaa.numTells

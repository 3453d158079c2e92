import Derived.Test.YtpefdmkfmcjfnaaPkOctRef

namespace Go.Proofs.Ytpefdmkfmcjfnaa.Fr
open Go.RowKit Go.Sort Go.Proofs.Ytpefdmkfmcjfnaa.Mem Go.Proofs.Ytpefdmkfmcjfnaa.Route Go.Proofs.Ytpefdmkfmcjfnaa.Oct
set_option linter.unusedVariables false
attribute [local go_sem] str_append str_from str_to
theorem u8_of (n : Nat) : ((UInt8.ofNat n).toNat : Int) = ((n % 256 : Nat) : Int) := by rw [UInt8.toNat_ofNat']
theorem frL_cells {k : Nat} {b : Bs} (hk : k < 256) (hb : b.length < 65536) : ((frL k b).take 3).map u8V = [.int .u8 (k : Int), .int .u8 ((b.length : Int) / 256), .int .u8 ((b.length : Int) % 256)] := by
 simp only [frL, List.take_succ_cons, List.take_zero, List.map_cons, List.map_nil, u8V, u8_of]
 rw [Nat.mod_eq_of_lt hk, show b.length / 256 % 256 = b.length / 256 by omega, Nat.mod_mod]
 rfl
theorem frL_join (k : Nat) (b : Bs) : (frL k b).take 3 ++ b = frL k b := by simp [frL]
set_option maxRecDepth 100000 in
set_option maxHeartbeats 4000000 in
theorem Lay_ok (k : Nat) (b : Bs) (hk : k < 256) (hb : b.length < 65536) (w : World) :
 Calls Try.prog 29 #[.int .i64 (k : Int), .string (str b)] w fun e w' => e = .returned (.tuple #[.string (str (frL k b)), .int .i64 0]) ∧ Below w.heap.size w w' := by
 have hA := AtL.new w 100 (((frL k b).take 3).map u8V)
 have hB : Below w.heap.size w (w.alloc (.cells (((frL k b).take 3).map u8V).toArray 100)) := (Below.refl _ _).alloc (Nat.le_refl _) _
 rw [frL_cells hk hb] at hA hB
 have hcv := fun W (h : AtL W w.heap.size 100 (((frL k b).take 3).map u8V)) => cells_text (P := Try.prog) W 26 9 5 Try.underlying26 Try.underlying5 Try.underlying9 w.heap.size 3 3 ((frL k b).take 3) rfl h.bytes
 rw [frL_cells hk hb] at hcv
 replace hcv := hcv _ hA
 have hj := frL_join k b
 have hk0 : ¬ (k : Int) < 0 := by omega
 have hk1 : ¬ (255 < (k : Int)) := by omega
 have hb1 : ¬ (65535 < (b.length : Int)) := by omega
 have hB' := Lib.hid hB
 clear hA hB
 go_enter Try.func29, Try.ntmps29
 go_wp2
 go_ret2
 exact ⟨rfl, hB'.out⟩
end Go.Proofs.Ytpefdmkfmcjfnaa.Fr
namespace Go.Proofs.Ytpefdmkfmcjfnaa.Oct
open Go.RowKit Go.Sort Go.Proofs.Ytpefdmkfmcjfnaa.Mem Go.Proofs.Ytpefdmkfmcjfnaa.Route
set_option linter.unusedVariables false
attribute [local go_sem] str_append str_from str_to
set_option maxRecDepth 100000 in
set_option maxHeartbeats 4000000 in
theorem refGet_any (s : Bs) (o k : Int) (hs : s.length ≤ 9223372036854775807) (w : World) :
 Calls Try.prog 62 #[.string (str s), .int .i64 o, .int .i64 k] w fun e w' => e = .returned (.tuple #[.int .u64 (getN s o k : Int), .bool (getOk s o k)]) ∧ w' = w := by
 have hex : getOk s o k = true ↔ 1 ≤ k ∧ k ≤ 8 ∧ 0 ≤ o ∧ o ≤ (s.length : Int) - k := by simp [getOk]
 have hsz : (s.length : Int) ≤ 9223372036854775807 := by omega
 have hs0 : (0 : Int) ≤ (s.length : Int) := by omega
 cases hO : getOk s o k
 · have hN : getN s o k = 0 := by simp [getN, hO]
   rw [hN]
   rw [← Bool.not_eq_true, hex] at hO
   clear hN hex
   by_cases h1 : k < 1
   · clear hO
     go_enter Try.func62, Try.ntmps62
     go_wp2
     go_ret2
     exact ⟨rfl, rfl⟩
   by_cases h8 : 8 < k
   · clear hO
     go_enter Try.func62, Try.ntmps62
     go_wp2
     go_ret2
     exact ⟨rfl, rfl⟩
   by_cases h0 : o < 0
   · clear hO
     go_enter Try.func62, Try.ntmps62
     go_wp2
     go_ret2
     exact ⟨rfl, rfl⟩
   by_cases h2 : (s.length : Int) < o
   · clear hO
     go_enter Try.func62, Try.ntmps62
     go_wp2
     go_ret2
     exact ⟨rfl, rfl⟩
   have h3 : (s.length : Int) - o < k := by omega
   have h4 : (0 : Int) ≤ (s.length : Int) - o := by omega
   have h5 : (s.length : Int) - o ≤ 9223372036854775807 := by omega
   clear hO
   go_enter Try.func62, Try.ntmps62
   go_wp2
   go_ret2
   exact ⟨rfl, rfl⟩
 obtain ⟨hk1, hk8, h0, h1⟩ := hex.1 hO
 obtain ⟨K, rfl⟩ : ∃ K : Nat, k = K := ⟨k.toNat, by omega⟩
 obtain ⟨O, rfl⟩ : ∃ O : Nat, o = O := ⟨o.toNat, by omega⟩
 have hN : getN s O K = numAt s O K := by simp [getN, hO, numAt]
 rw [hN]
 have hfit : O + K ≤ s.length := by omega
 have hK8 : K ≤ 8 := by omega
 have q1 : (O : Int) ≤ (s.length : Int) := by omega
 have q2 : (K : Int) ≤ (s.length : Int) - (O : Int) := by omega
 have q4 : (0 : Int) ≤ (s.length : Int) - (O : Int) := by omega
 have q5 : (s.length : Int) - (O : Int) ≤ 9223372036854775807 := by omega
 clear hex hO hN h1
 go_enter Try.func62, Try.ntmps62
 go_wp2_with fail
 go_loopw [8, 9] (fun n c wr => ∃ j : Nat, c = .int .i64 (j : Int) ∧ j ≤ K ∧ n = .int .u64 (numAt s O j : Int) ∧ wr = w)
  (fun _ c _ => K - (intOf c).toNat)
 case atStart => exact ⟨0, rfl, Nat.zero_le _, rfl, rfl⟩
 case round =>
  obtain ⟨j, rfl, hjk, rfl, rfl⟩ := hrel
  by_cases hlt : j < K
  · have hij : O + j < s.length := by omega
    have hix := fun W => index_text W s (O + j) hij
    have hlt' : (j : Int) < (K : Int) := by omega
    have hnx := numAt_next (s := s) (o := O) (j := j) hij
    have h7 := numAt_lt7 (s := s) (o := O) (j := j) (by omega)
    obtain ⟨V, hV⟩ : ∃ V, numAt s O j = V := ⟨_, rfl⟩
    obtain ⟨b, hb⟩ : ∃ b, s[O + j]'hij = b := ⟨_, rfl⟩
    rw [hV] at hnx h7
    rw [hb] at hnx hix
    have hVi : (V : Int) < 72057594037927936 := by omega
    have hcast : ((O + j : Nat) : Int) = (O : Int) + (j : Int) := by omega
    rw [hcast] at hix
    have hOj : (O : Int) + (j : Int) ≤ 9223372036854775807 := by omega
    have hx256 := b.toNat_lt
    obtain ⟨x, hx⟩ : ∃ x, b.toNat = x := ⟨_, rfl⟩
    rw [hx] at hnx hix hx256
    have hx1 : (x : Int) < 256 := by omega
    have hnx' := Lib.hid hnx
    rw [hV]
    clear hx hx256 hcast hV hb hnx hsz hs0 hk1 hk8 h0 h7 q1 q2 q4 q5
    go_wp2_with fail
    go_roundw
    case rel => exact ⟨j + 1, by go_num, by omega, by rw [hnx'.out, Int.natCast_add, Int.natCast_mul]; rfl, trivial⟩
    case measure => simp [intOf]; omega
  · obtain rfl : j = K := by omega
    clear hlt
    go_wp2
    go_ret2
    exact ⟨rfl, rfl⟩
def stOf (l : Bs) (b : Bool) : St := if b then none else some l
def RfIn (n : Nat) (w : World) (m : Nat) (st : St) : Prop := ∃ l b, stOf l b = st ∧ l.length ≤ n ∧ At w m 81 #[.string (str l), .bool b]
def RfAt (w : World) (m : Nat) (st : St) : Prop := RfIn 9223372036854775000 w m st
theorem RfAt.keep {B : Nat} {w v : World} {g : Nat} {st : St} (h : RfAt w g st) (hb : Below B w v) (hg : g < B) : RfAt v g st := by
 obtain ⟨l, b, h1, h2, h3⟩ := h
 exact ⟨l, b, h1, h2, h3.keep hb hg⟩
theorem RfAt.inside {w : World} {g : Nat} {st : St} (h : RfAt w g st) : g < w.heap.size := by
 obtain ⟨l, b, h1, h2, h3⟩ := h
 exact h3.inside
theorem RfAt.same {w v : World} {g : Nat} {st : St} (h : RfAt w g st) (hb : v.heap[g]? = w.heap[g]?) : RfAt v g st := by
 obtain ⟨l, b, h1, h2, h3⟩ := h
 exact ⟨l, b, h1, h2, hb.trans h3⟩
def takeS (l : Bs) (b : Bool) (n : Nat) : Bs × Bs × Bool := if b then ([], l, true) else if n ≤ l.length then (l.take n, l.drop n, false) else ([], l, true)
set_option maxRecDepth 100000 in
set_option maxHeartbeats 4000000 in
theorem take_any (m : Nat) (l : Bs) (b : Bool) (n : Nat) (w : World) (hl : l.length ≤ 9223372036854775000) (hn : n ≤ 9223372036854775807) (h : At w m 81 #[.string (str l), .bool b]) :
 Calls Try.prog 63 #[.pointer (some ⟨m, 0, none⟩), .int .i64 (n : Int)] w fun e w' => e = .returned (.string (str (takeS l b n).1)) ∧ At w' m 81 #[.string (str (takeS l b n).2.1), .bool (takeS l b n).2.2] ∧ w.grownBy w' (some m) := by
 have c0 := h.cell 0
 have c1 := h.cell 1
 have f0 := h.free 0
 have f1 := h.free 1
 simp at c0 c1
 have hbr : At (w.setCell ⟨m, 1, none⟩ (.bool true)) m 81 #[.string (str l), .bool true] := by
  have := h.put 1 (.bool true)
  simpa using this
 have hgr := ((Chg.refl w.heap.size m w).set (.inr rfl) 1 (.bool true)).grown
 cases b
 · by_cases hle : n ≤ l.length
   · have hS : takeS l false n = (l.take n, l.drop n, false) := by simp [takeS, hle]
     rw [hS]
     have hA' : At (w.setCell ⟨m, 0, none⟩ (.string (str (l.drop n)))) m 81 #[.string (str (l.drop n)), .bool false] := by
      have := h.put 0 (.string (str (l.drop n)))
      simpa using this
     have hg' := ((Chg.refl w.heap.size m w).set (.inr rfl) 0 (.string (str (l.drop n)))).grown
     have hle' : (n : Int) ≤ (l.length : Int) := by omega
     clear h hbr hgr hS
     go_enter Try.func63, Try.ntmps63
     go_wp2
     go_ret
     exact ⟨rfl, hA', hg'⟩
   · have hS : takeS l false n = ([], l, true) := by simp [takeS, hle]
     rw [hS]
     have hlt' : (l.length : Int) < (n : Int) := by omega
     clear h hS hle
     go_enter Try.func63, Try.ntmps63
     go_wp2
     go_ret
     exact ⟨rfl, hbr, hgr⟩
 · have hS : takeS l true n = ([], l, true) := by simp [takeS]
   rw [hS]
   clear h hS
   go_enter Try.func63, Try.ntmps63
   go_wp2
   go_ret
   exact ⟨rfl, hbr, hgr⟩
attribute [local go_sem] str_append str_from str_to
theorem ret_str {a b : Bs} (h : a = b) : Ending.returned (.string (str a)) = .returned (.string (str b)) := by rw [h]
theorem grown_trans {u w v : World} {r : Nat} (h : u.grownBy w (some r)) (hb : w.grownBy v (some r)) : u.grownBy v (some r) :=
 ⟨hb.os.trans h.os, hb.tape.trans h.tape, hb.output.trans h.output, Nat.le_trans h.size hb.size, fun k hk hne => (hb.block k (Nat.lt_of_lt_of_le hk h.size) hne).trans (h.block k hk hne)⟩
theorem getOk_take {l : Bs} {k : Nat} (h1 : 1 ≤ k) (h8 : k ≤ 8) (hl : k ≤ l.length) : getOk (l.take k) 0 k = true := by
 simp [getOk, List.length_take]
 omega
theorem getOk_nil {k : Nat} (h1 : 1 ≤ k) : getOk [] 0 k = false := by
 simp [getOk]
 omega
set_option maxRecDepth 100000 in
set_option maxHeartbeats 4000000 in
theorem refNum_raw (k : Int) (m : Nat) (l : Bs) (b : Bool) (w : World) (hl : l.length ≤ 9223372036854775000) (h : At w m 81 #[.string (str l), .bool b]) :
 Calls Try.prog 53 #[.pointer (some ⟨m, 0, none⟩), .int .i64 k] w fun e w' => e = .returned (.int .u64 ((numS (stOf l b) k).1 : Int)) ∧ RfIn l.length w' m (numS (stOf l b) k).2 ∧ w.grownBy w' (some m) := by
 have c1 := h.cell 1
 have f1 := h.free 1
 simp at c1
 cases hw : isW k
 · have hbr : At (w.setCell ⟨m, 1, none⟩ (.bool true)) m 81 #[.string (str l), .bool true] := by
    have := h.put 1 (.bool true)
    simpa using this
   have hgr := ((Chg.refl w.heap.size m w).set (.inr rfl) 1 (.bool true)).grown
   have hno : ∀ l : Bs, getOk l 0 k = false := fun l => by
    rw [← Bool.not_eq_true]
    intro h
    simp [getOk] at h
    simp [isW] at hw
    omega
   have hS : numS (stOf l b) k = (0, none) := by cases b <;> simp [stOf, numS, hno]
   rw [hS]
   have hpost : RfIn l.length (w.setCell ⟨m, 1, none⟩ (.bool true)) m none := ⟨l, true, rfl, Nat.le_refl _, hbr⟩
   have hpostH := Lib.hid hpost
   clear hbr hS hno hpost h
   by_cases h1 : k < 1
   · go_enter Try.func53, Try.ntmps53
     go_wp2
     go_ret
     exact ⟨rfl, hpostH.out, hgr⟩
   · have h8 : 8 < k := by simp [isW] at hw; omega
     go_enter Try.func53, Try.ntmps53
     go_wp2
     go_ret
     exact ⟨rfl, hpostH.out, hgr⟩
 · have hk : 1 ≤ k ∧ k ≤ 8 := by simpa [isW] using hw
   obtain ⟨hk1, hk8⟩ := hk
   obtain ⟨K, rfl⟩ : ∃ K : Nat, k = K := ⟨k.toNat, by omega⟩
   have ht := take_any m l b K w hl (by omega) h
   have hend : ∃ n : Nat, ∃ ok : Bool, getN (takeS l b K).1 0 K = n ∧ getOk (takeS l b K).1 0 K = ok ∧ (numS (stOf l b) K).1 = n ∧ stOf (takeS l b K).2.1 (takeS l b K).2.2 = (numS (stOf l b) K).2 ∧ (takeS l b K).2.1.length ≤ l.length ∧ (takeS l b K).1.length ≤ l.length := by
    refine ⟨_, _, rfl, rfl, ?_⟩
    cases b
    · by_cases hle : K ≤ l.length
      · have hS : takeS l false K = (l.take K, l.drop K, false) := by simp [takeS, hle]
        have hok : getOk l 0 (K : Int) = true := by simp [getOk]; omega
        have ho2 := getOk_take (l := l) (k := K) (by omega) (by omega) hle
        rw [hS]
        refine ⟨?_, ?_, ?_, ?_⟩
        · simp [stOf, numS, hok, getN, ho2, List.take_take]
        · simp [stOf, numS, hok]
        · simp
        · simp; omega
      · have hS : takeS l false K = ([], l, true) := by simp [takeS, hle]
        have hok : getOk l 0 (K : Int) = false := by simp [getOk]; omega
        have ho2 := getOk_nil (k := K) (by omega)
        rw [hS]
        refine ⟨?_, ?_, Nat.le_refl _, Nat.zero_le _⟩
        · simp [stOf, numS, hok, getN, ho2]
        · simp [stOf, numS, hok]
    · have hS : takeS l true K = ([], l, true) := by simp [takeS]
      have ho2 := getOk_nil (k := K) (by omega)
      rw [hS]
      refine ⟨?_, ?_, Nat.le_refl _, Nat.zero_le _⟩
      · simp [stOf, numS, getN, ho2]
      · simp [stOf, numS]
   obtain ⟨N, ok, hN, hO, h1, h2, h3, h4⟩ := hend
   obtain ⟨T, hT⟩ : ∃ T, takeS l b K = T := ⟨_, rfl⟩
   rw [hT] at ht hN hO h2 h3 h4
   have hg := fun W => refGet_any T.1 0 K (by omega) W
   rw [hN, hO] at hg
   rw [h1]
   have h2H := Lib.hid h2
   have h3H := Lib.hid h3
   clear h2 h3 h1 hT hN hO hw h4
   go_enter Try.func53, Try.ntmps53
   go_wp2_with fail
   refine ht.mono ?_
   clear ht
   rintro e w1 ⟨rfl, hA1, hg1⟩
   go_wp2_with fail
   refine (hg _).mono ?_
   clear hg
   rintro e w2 ⟨rfl, rfl⟩
   go_wp2
   go_ret
   exact ⟨rfl, ⟨_, _, h2H.out, h3H.out, hA1⟩, hg1⟩
theorem refNum_any (k : Int) (m : Nat) (st : St) (w : World) (h : RfAt w m st) :
 Calls Try.prog 53 #[.pointer (some ⟨m, 0, none⟩), .int .i64 k] w fun e w' => e = .returned (.int .u64 ((numS st k).1 : Int)) ∧ RfAt w' m (numS st k).2 ∧ w.grownBy w' (some m) := by
 obtain ⟨l, b, rfl, h1, hA⟩ := h
 refine (refNum_raw k m l b w h1 hA).mono ?_
 rintro e w' ⟨he, ⟨l', b', h2, h3, h4⟩, h5⟩
 exact ⟨he, ⟨l', b', h2, by omega, h4⟩, h5⟩
end Go.Proofs.Ytpefdmkfmcjfnaa.Oct
namespace Go.Proofs.Ytpefdmkfmcjfnaa.Ms
open Go.RowKit Go.Sort Go.Proofs.Ytpefdmkfmcjfnaa.Mem Go.Proofs.Ytpefdmkfmcjfnaa.Route Go.Proofs.Ytpefdmkfmcjfnaa.Oct Go.Proofs.Ytpefdmkfmcjfnaa.Part Go.Proofs.Ytpefdmkfmcjfnaa.Dr
set_option linter.unusedVariables false
theorem chg_grown {B r : Nat} {a b : World} (h : a.grownBy b (some r)) (hB : B ≤ a.heap.size) : Chg B r a b := ⟨h.os, h.tape, h.output, h.size, fun k hk hne => h.block k (Nat.lt_of_lt_of_le hk hB) (by simpa using hne)⟩
theorem chg_new {n r : Nat} {w v : World} (hn : w.heap.size = n) (h : Chg n r w v) : w.grownBy v (some r) := by
 subst hn
 exact h.grown
theorem atL_grown {w v : World} {g r : Nat} {t : TypeId} {cs : List Value} (h : AtL w g t cs) (hg : w.grownBy v (some r)) (hne : g ≠ r) : AtL v g t cs := (hg.block g h.inside (by simpa using hne)).trans h
theorem fold_lt (l : Bs) : ∀ a : Nat, l.foldl (fun a b => a * 256 + b.toNat) a < (a + 1) * 256 ^ l.length := by
 induction l with
 | nil => intro a; simp
 | cons b t ih =>
  intro a
  have h := ih (a * 256 + b.toNat)
  have hb := b.toNat_lt
  rw [List.foldl_cons, List.length_cons, Nat.pow_succ, Nat.mul_comm (256 ^ t.length) 256, ← Nat.mul_assoc]
  exact Nat.lt_of_lt_of_le h (Nat.mul_le_mul_right _ (by omega))
theorem numL_lt (l : Bs) : numL l < 256 ^ l.length := by
 have := fold_lt l 0
 rw [Nat.zero_add, Nat.one_mul] at this
 exact this
theorem numS_lt (st : St) {k : Int} (hk : k ≤ 4) : (numS st k).1 < 4294967296 := by
 unfold numS
 split
 · split
   · rename_i l hok
     refine Nat.lt_of_lt_of_le (numL_lt _) ?_
     refine Nat.le_trans (Nat.pow_le_pow_right (by omega) (show (l.take k.toNat).length ≤ 4 by rw [List.length_take]; omega)) (by decide)
   · decide
 · decide
theorem numS_byte (st : St) : (numS st 1).1 < 256 := by
 unfold numS
 split
 · split
   · rename_i l hok
     refine Nat.lt_of_lt_of_le (numL_lt _) ?_
     refine Nat.le_trans (Nat.pow_le_pow_right (by omega) (show (l.take (1 : Int).toNat).length ≤ 1 by rw [List.length_take]; exact Nat.min_le_left _ _)) (by decide)
   · decide
 · decide
set_option maxRecDepth 100000 in
set_option maxHeartbeats 4000000 in
theorem small_any (k : Int) (hk : k ≤ 4) (g : Nat) (st : St) (w : World) (h : RfAt w g st) :
 Calls Try.prog 51 #[.pointer (some ⟨g, 0, none⟩), .int .i64 k] w fun e w' => e = .returned (.int .i64 ((numS st k).1 : Int)) ∧ RfAt w' g (numS st k).2 ∧ w.grownBy w' (some g) := by
 have hn := Lib.hid (refNum_any k g st w h)
 have hlt := numS_lt st hk
 obtain ⟨N, hN⟩ : ∃ N, (numS st k).1 = N := ⟨_, rfl⟩
 rw [hN] at hlt hn
 rw [hN]
 have h1 : (N : Int) ≤ 4294967296 := by omega
 clear hN hlt h hk
 go_enter Try.func51, Try.ntmps51
 go_wp2_with fail
 refine hn.out.mono ?_
 rintro e w1 ⟨rfl, hR, hg⟩
 go_wp2
 go_ret
 exact ⟨rfl, hR, hg⟩
theorem digS_snoc (n : Nat) : ∀ st : St, digS (n + 1) st = ((digS n st).1 ++ [UInt8.ofNat (numS (digS n st).2 1).1], (numS (digS n st).2 1).2) := by
 induction n with
 | zero => intro st; rfl
 | succ k ih =>
  intro st
  have h := ih (numS st 1).2
  rw [digS, h]
  simp [digS]
theorem digS_len (n : Nat) : ∀ st : St, (digS n st).1.length = n := by
 induction n with
 | zero => intro st; rfl
 | succ k ih => intro st; simp [digS, ih]
def digP (i : Nat) (st : St) : Bs := (digS i st).1 ++ List.replicate (32 - i) 0
theorem digP_len {i : Nat} (h : i ≤ 32) (st : St) : (digP i st).length = 32 := by simp [digP, digS_len]; omega
theorem digP_set {i : Nat} (h : i < 32) (st : St) : (digP i st).set i (UInt8.ofNat (numS (digS i st).2 1).1) = digP (i + 1) st := by
 unfold digP
 rw [digS_snoc, List.set_append_right _ _ (by rw [digS_len]; omega), digS_len, Nat.sub_self, show 32 - i = (32 - (i + 1)) + 1 by omega, List.replicate_succ, List.set_cons_zero]
 simp
set_option maxRecDepth 100000 in
set_option maxHeartbeats 8000000 in
theorem digest_any (g : Nat) (st : St) (w : World) (h : RfAt w g st) :
 Calls Try.prog 52 #[.pointer (some ⟨g, 0, none⟩)] w fun e w' => e = .returned (.agg ((digS 32 st).1.map u8V).toArray) ∧ RfAt w' g (digS 32 st).2 ∧ w.grownBy w' (some g) := by
 have hgi := h.inside
 obtain ⟨n, hn⟩ : ∃ n, w.heap.size = n := ⟨_, rfl⟩
 obtain ⟨n1, hn1⟩ : ∃ n1, n + 1 = n1 := ⟨_, rfl⟩
 have hC0 := ((Chg.refl n g w).alloc (by omega) (.cells (zD.map u8V).toArray 37)).alloc (by simp; omega) (.cells (zD.map u8V).toArray 37)
 have hO : AtL ((w.alloc (.cells (zD.map u8V).toArray 37)).alloc (.cells (zD.map u8V).toArray 37)) n 37 (zD.map u8V) := by have := (AtL.new w 37 (zD.map u8V)).alloc (.cells (zD.map u8V).toArray 37); rwa [hn] at this
 have hD : AtL ((w.alloc (.cells (zD.map u8V).toArray 37)).alloc (.cells (zD.map u8V).toArray 37)) n1 37 ((digP 0 st).map u8V) := by have := AtL.new (w.alloc (.cells (zD.map u8V).toArray 37)) 37 (zD.map u8V); rwa [World.size_alloc, hn, hn1] at this
 have hR : RfAt ((w.alloc (.cells (zD.map u8V).toArray 37)).alloc (.cells (zD.map u8V).toArray 37)) g (digS 0 st).2 := h.keep (((Below.refl w.heap.size w).alloc (Nat.le_refl _) _).alloc (by simp) _) hgi
 rw [show (zD.map u8V).toArray = #[.int .u8 0, .int .u8 0, .int .u8 0, .int .u8 0, .int .u8 0, .int .u8 0, .int .u8 0, .int .u8 0, .int .u8 0, .int .u8 0, .int .u8 0, .int .u8 0, .int .u8 0, .int .u8 0, .int .u8 0, .int .u8 0, .int .u8 0, .int .u8 0, .int .u8 0, .int .u8 0, .int .u8 0, .int .u8 0, .int .u8 0, .int .u8 0, .int .u8 0, .int .u8 0, .int .u8 0, .int .u8 0, .int .u8 0, .int .u8 0, .int .u8 0, .int .u8 0] from rfl] at hC0 hO hD hR
 go_enter Try.func52, Try.ntmps52
 go_upto_region 2 with fail
 rw [hn] at hgi
 generalize ((w.alloc (.cells #[.int .u8 0, .int .u8 0, .int .u8 0, .int .u8 0, .int .u8 0, .int .u8 0, .int .u8 0, .int .u8 0, .int .u8 0, .int .u8 0, .int .u8 0, .int .u8 0, .int .u8 0, .int .u8 0, .int .u8 0, .int .u8 0, .int .u8 0, .int .u8 0, .int .u8 0, .int .u8 0, .int .u8 0, .int .u8 0, .int .u8 0, .int .u8 0, .int .u8 0, .int .u8 0, .int .u8 0, .int .u8 0, .int .u8 0, .int .u8 0, .int .u8 0, .int .u8 0] 37)).alloc (.cells #[.int .u8 0, .int .u8 0, .int .u8 0, .int .u8 0, .int .u8 0, .int .u8 0, .int .u8 0, .int .u8 0, .int .u8 0, .int .u8 0, .int .u8 0, .int .u8 0, .int .u8 0, .int .u8 0, .int .u8 0, .int .u8 0, .int .u8 0, .int .u8 0, .int .u8 0, .int .u8 0, .int .u8 0, .int .u8 0, .int .u8 0, .int .u8 0, .int .u8 0, .int .u8 0, .int .u8 0, .int .u8 0, .int .u8 0, .int .u8 0, .int .u8 0, .int .u8 0] 37)) = W1 at *
 replace hn := Lib.hid hn
 have hnn : n < n1 := by omega
 replace hn1 := Lib.hid hn1
 clear h
 have hz1 : n1 < W1.heap.size := hD.inside
 have hz1 := Lib.hid hz1
 have hC1 := Lib.hid hC0
 have hO1 := Lib.hid hO
 have hD1 := Lib.hid hD
 have hR1 := Lib.hid hR
 clear hC0 hO hD hR
 go_wp2_with fail
 go_loopw [4] (fun c wr => ∃ i : Nat, c = .int .i64 (i : Int) ∧ i ≤ 32 ∧ Hid (AtL wr n1 37 ((digP i st).map u8V)) ∧ Hid (RfAt wr g (digS i st).2) ∧ Hid (Chg n g w wr) ∧ Hid (AtL wr n 37 (zD.map u8V)))
  (fun c _ => 32 - (RowKit.intOf c).toNat)
 case atStart => exact ⟨0, rfl, by omega, hD1, hR1, hC1, hO1⟩
 case round =>
  obtain ⟨wi, hwi⟩ : ∃ wi, wi = wr := ⟨_, rfl⟩
  subst hwi
  obtain ⟨i, rfl, hi, hDi, hRi, hCi, hOi⟩ := hrel
  clear hD1 hR1 hC1 hO1 hz1
  by_cases hlt : i < 32
  case neg =>
   obtain rfl : i = 32 := by omega
   have hd : digP 32 st = (digS 32 st).1 := by simp [digP]
   have hD2 := hDi.out
   rw [hd] at hD2
   have hl := digS_len 32 st
   have hDl : (zD.map u8V).length = 32 := rfl
   generalize hDe : (digS 32 st).1 = D at *
   replace hDe := Lib.hid hDe
   have hsz := Lib.hid (dig_size hl)
   have hld := Lib.hid (show ∀ j u, (D.map u8V)[j]? = some u → wi.cell? ⟨n1, 0 + j, none⟩ = some u from fun j u hu => by rw [Nat.zero_add]; exact hD2.get hu)
   have hlo := Lib.hid (show 0 + (D.map u8V).length ≤ (zD.map u8V).length by rw [List.length_map, hl]; decide)
   have h1c := Lib.hid (one_u8 (l := D))
   have hO3 : AtL (wi.setRow n (putL (zD.map u8V) 0 (D.map u8V)).toArray) n 37 (D.map u8V) := by
    have := hOi.out.row (putL (zD.map u8V) 0 (D.map u8V))
    rw [put_all (by rw [List.length_map, hl]; rfl)] at this ⊢
    exact this
   have hC3 := Lib.hid (hCi.out.row (g := n) (.inl (Nat.le_refl _)) (putL (zD.map u8V) 0 (D.map u8V)).toArray)
   have hR3 := Lib.hid (hRi.out.keep (below_row (Below.refl n wi) (Nat.le_refl _) (putL (zD.map u8V) 0 (D.map u8V)).toArray) hgi)
   replace hO3 := Lib.hid hO3
   clear hd hl hDl hD2 hlt
   go_wp2_with (first | (refine wpList_load_part_w rfl 37 _ rfl n1 0 rfl (D.map u8V) hld.out _ Try.underlying37 rfl hsz.out ?_) | (refine wpList_store_part rfl 37 _ _ rfl n 0 (D.map u8V) rfl rfl 37 (zD.map u8V) hOi.out hsz.out hlo.out h1c.out ?_))
   refine bodyPost_ret (ret_array rfl rfl hO3.out _ Try.underlying37 rfl hsz.out) rfl ?_
   exact ⟨by rw [hDe.out], hR3.out, chg_new hn.out hC3.out⟩
  obtain ⟨N, hN⟩ : ∃ N, (numS (digS i st).2 1).1 = N := ⟨_, rfl⟩
  have hnum := Lib.hid (refNum_any 1 g _ wi hRi.out)
  have hN8 := numS_byte (digS i st).2
  have hps := digP_set hlt st
  have hst : (numS (digS i st).2 1).2 = (digS (i + 1) st).2 := by rw [digS_snoc]
  rw [hst, hN] at hnum
  rw [hN] at hN8 hps
  have hN9 : (N : Int) ≤ 255 := by omega
  have hpl := digP_len (Nat.le_of_lt hlt) st
  have hlt' : (i : Int) < 32 := by omega
  obtain ⟨c, hc⟩ : ∃ c, ((digP i st).map u8V)[i]? = some c := ⟨_, List.getElem?_eq_getElem (by rw [List.length_map, hpl]; exact hlt)⟩
  have hv := ofNat_toNat hN8
  replace hst := Lib.hid hst
  replace hps := Lib.hid hps
  replace hpl := Lib.hid hpl
  have hltH := Lib.hid hlt
  clear hN hN8 hlt
  go_wp2_with fail
  refine hnum.out.mono ?_
  rintro e w1 ⟨rfl, hRn, hgn⟩
  have hDn := atL_grown hDi.out hgn (by omega)
  have hOn := Lib.hid (atL_grown hOi.out hgn (by omega))
  have hCn := Lib.hid (hCi.out.trans (chg_grown hgn (Nat.le_trans (Nat.le_of_lt hnn) (Nat.le_of_lt hDi.out.inside))))
  have hcc := (hDn.cell i).trans hc
  have hff := hDn.free i
  replace hDn := Lib.hid hDn
  replace hRn := Lib.hid hRn
  clear hgn hnum
  go_wp2_with fail
  go_roundw
  case rel => exact ⟨i + 1, by go_num, by have := hltH.out; omega, Lib.hid (by
   have := hDn.out.put i (u8V (UInt8.ofNat N))
   rw [← List.map_set, hps.out, u8V, hv] at this
   exact this), Lib.hid (hRn.out.keep (below_set (Below.refl n w1) (Nat.le_of_lt hnn) i (.int .u8 (N : Int))) hgi), Lib.hid (hCn.out.set (.inl (Nat.le_of_lt hnn)) i (.int .u8 (N : Int))), Lib.hid (hOn.out.far (by omega) i (.int .u8 (N : Int)))⟩
  case measure => have := hltH.out; simp [RowKit.intOf]; omega
end Go.Proofs.Ytpefdmkfmcjfnaa.Ms

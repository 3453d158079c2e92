/-
  The document's answers: Get; its reader.
-/
import Derived.Test.YtjjmhkafhbeabaaOctRef
import Derived.Test.YtjjmhkafhbeabaaOctStep
namespace Go.Proofs.Ytjjmhkafhbeabaa.Oct
open Go.RowKit Go.Sort Go.Proofs.Ytjjmhkafhbeabaa.Mem Go.Proofs.Ytjjmhkafhbeabaa.Route
set_option linter.unusedVariables false
attribute [local go_sem] str_append str_from str_to

set_option maxRecDepth 100000 in
set_option maxHeartbeats 4000000 in
theorem refGet_any (s : Bs) (o k : Int) (hs : s.length ≤ 9223372036854775807) (w : World) :
    Calls Try.prog 31 #[.string (str s), .int .i64 o, .int .i64 k] w fun e w' => e = .returned (.tuple #[.int .u64 (getN s o k : Int), .bool (getOk s o k)]) ∧ w' = w := by
  have hex : getOk s o k = true ↔ 1 ≤ k ∧ k ≤ 8 ∧ 0 ≤ o ∧ o ≤ (s.length : Int) - k := by simp [getOk]
  have hsz : (s.length : Int) ≤ 9223372036854775807 := by omega
  have hs0 : (0 : Int) ≤ (s.length : Int) := by omega
  cases hO : getOk s o k
  · have hN : getN s o k = 0 := by simp [getN, hO]
    rw [hN]
    rw [← Bool.not_eq_true, hex] at hO
    clear hN hex
    by_cases h1 : k < 1
    · clear hO
      go_enter Try.func31, Try.ntmps31
      go_wp2
      go_ret2
      exact ⟨rfl, rfl⟩
    by_cases h8 : 8 < k
    · clear hO
      go_enter Try.func31, Try.ntmps31
      go_wp2
      go_ret2
      exact ⟨rfl, rfl⟩
    by_cases h0 : o < 0
    · clear hO
      go_enter Try.func31, Try.ntmps31
      go_wp2
      go_ret2
      exact ⟨rfl, rfl⟩
    by_cases h2 : (s.length : Int) < o
    · clear hO
      go_enter Try.func31, Try.ntmps31
      go_wp2
      go_ret2
      exact ⟨rfl, rfl⟩
    have h3 : (s.length : Int) - o < k := by omega
    have h4 : (0 : Int) ≤ (s.length : Int) - o := by omega
    have h5 : (s.length : Int) - o ≤ 9223372036854775807 := by omega
    clear hO
    go_enter Try.func31, Try.ntmps31
    go_wp2
    go_ret2
    exact ⟨rfl, rfl⟩
  obtain ⟨hk1, hk8, h0, h1⟩ := hex.1 hO
  obtain ⟨K, rfl⟩ : ∃ K : Nat, k = K := ⟨k.toNat, by omega⟩
  obtain ⟨O, rfl⟩ : ∃ O : Nat, o = O := ⟨o.toNat, by omega⟩
  have hN : getN s O K = numAt s O K := by simp [getN, hO, numAt]
  rw [hN]
  have hfit : O + K ≤ s.length := by omega
  have hK8 : K ≤ 8 := by omega
  have q1 : (O : Int) ≤ (s.length : Int) := by omega
  have q2 : (K : Int) ≤ (s.length : Int) - (O : Int) := by omega
  have q4 : (0 : Int) ≤ (s.length : Int) - (O : Int) := by omega
  have q5 : (s.length : Int) - (O : Int) ≤ 9223372036854775807 := by omega
  clear hex hO hN h1
  go_enter Try.func31, Try.ntmps31
  go_wp2_with fail
  go_loopw [8, 9] (fun n c wr => ∃ j : Nat, c = .int .i64 (j : Int) ∧ j ≤ K ∧ n = .int .u64 (numAt s O j : Int) ∧ wr = w)
    (fun _ c _ => K - (intOf c).toNat)
  case atStart => exact ⟨0, rfl, Nat.zero_le _, rfl, rfl⟩
  case round =>
    obtain ⟨j, rfl, hjk, rfl, rfl⟩ := hrel
    by_cases hlt : j < K
    · have hij : O + j < s.length := by omega
      have hix := fun W => index_text W s (O + j) hij
      have hlt' : (j : Int) < (K : Int) := by omega
      have hnx := numAt_next (s := s) (o := O) (j := j) hij
      have h7 := numAt_lt7 (s := s) (o := O) (j := j) (by omega)
      obtain ⟨V, hV⟩ : ∃ V, numAt s O j = V := ⟨_, rfl⟩
      obtain ⟨b, hb⟩ : ∃ b, s[O + j]'hij = b := ⟨_, rfl⟩
      rw [hV] at hnx h7
      rw [hb] at hnx hix
      have hVi : (V : Int) < 72057594037927936 := by omega
      have hcast : ((O + j : Nat) : Int) = (O : Int) + (j : Int) := by omega
      rw [hcast] at hix
      have hOj : (O : Int) + (j : Int) ≤ 9223372036854775807 := by omega
      have hx256 := b.toNat_lt
      obtain ⟨x, hx⟩ : ∃ x, b.toNat = x := ⟨_, rfl⟩
      rw [hx] at hnx hix hx256
      have hx1 : (x : Int) < 256 := by omega
      have hnx' := Lib.hid hnx
      rw [hV]
      clear hx hx256 hcast hV hb hnx hsz hs0 hk1 hk8 h0 h7 q1 q2 q4 q5
      go_wp2_with fail
      go_roundw
      case rel => exact ⟨j + 1, by go_num, by omega, by rw [hnx'.out, Int.natCast_add, Int.natCast_mul]; rfl, trivial⟩
      case measure => simp [intOf]; omega
    · obtain rfl : j = K := by omega
      clear hlt
      go_wp2
      go_ret2
      exact ⟨rfl, rfl⟩

def stOf (l : Bs) (b : Bool) : St := if b then none else some l
/-- The document's reader in this state. -/
def RfIn (n : Nat) (w : World) (m : Nat) (st : St) : Prop := ∃ l b, stOf l b = st ∧ l.length ≤ n ∧ At w m 37 #[.string (str l), .bool b]
def RfAt (w : World) (m : Nat) (st : St) : Prop := RfIn 9223372036854775000 w m st
theorem RfAt.keep {B : Nat} {w v : World} {g : Nat} {st : St} (h : RfAt w g st) (hb : Below B w v) (hg : g < B) : RfAt v g st := by
  obtain ⟨l, b, h1, h2, h3⟩ := h
  exact ⟨l, b, h1, h2, h3.keep hb hg⟩
theorem RfAt.inside {w : World} {g : Nat} {st : St} (h : RfAt w g st) : g < w.heap.size := by
  obtain ⟨l, b, h1, h2, h3⟩ := h
  exact h3.inside
theorem RfAt.same {w v : World} {g : Nat} {st : St} (h : RfAt w g st) (hb : v.heap[g]? = w.heap[g]?) : RfAt v g st := by
  obtain ⟨l, b, h1, h2, h3⟩ := h
  exact ⟨l, b, h1, h2, hb.trans h3⟩

theorem refLeft_any (m : Nat) (st : St) (w : World) (h : RfAt w m st) : Calls Try.prog 20 #[.pointer (some ⟨m, 0, none⟩)] w fun e w' => e = .returned (.int .i64 (leftS st : Int)) ∧ w' = w := by
  obtain ⟨l, b, rfl, -, hA⟩ := h
  have c0 := hA.cell 0
  have c1 := hA.cell 1
  simp at c0 c1
  cases b
  · go_enter Try.func20, Try.ntmps20
    go_wp2
    go_ret
    exact ⟨rfl, rfl⟩
  · go_enter Try.func20, Try.ntmps20
    go_wp2
    go_ret
    exact ⟨rfl, rfl⟩
theorem refEnd_any (m : Nat) (st : St) (w : World) (h : RfAt w m st) : Calls Try.prog 22 #[.pointer (some ⟨m, 0, none⟩)] w fun e w' => e = .returned (.int .i64 (endS st)) ∧ w' = w := by
  obtain ⟨l, b, rfl, -, hA⟩ := h
  cases b
  · rcases l with _ | ⟨x, l⟩
    all_goals
      have c0 := hA.cell 0
      have c1 := hA.cell 1
      simp at c0 c1
      go_enter Try.func22, Try.ntmps22
      go_wp2
      go_ret
      exact ⟨rfl, rfl⟩
  · have c0 := hA.cell 0
    have c1 := hA.cell 1
    simp at c0 c1
    go_enter Try.func22, Try.ntmps22
    go_wp2
    go_ret
    exact ⟨rfl, rfl⟩

/-- So many bytes are taken. -/
def takeS (l : Bs) (b : Bool) (n : Nat) : Bs × Bs × Bool := if b then ([], l, true) else if n ≤ l.length then (l.take n, l.drop n, false) else ([], l, true)
set_option maxRecDepth 100000 in
set_option maxHeartbeats 4000000 in
theorem take_any (m : Nat) (l : Bs) (b : Bool) (n : Nat) (w : World) (hl : l.length ≤ 9223372036854775000) (hn : n ≤ 9223372036854775807) (h : At w m 37 #[.string (str l), .bool b]) :
    Calls Try.prog 34 #[.pointer (some ⟨m, 0, none⟩), .int .i64 (n : Int)] w fun e w' => e = .returned (.string (str (takeS l b n).1)) ∧ At w' m 37 #[.string (str (takeS l b n).2.1), .bool (takeS l b n).2.2] ∧ w.grownBy w' (some m) := by
  have c0 := h.cell 0
  have c1 := h.cell 1
  have f0 := h.free 0
  have f1 := h.free 1
  simp at c0 c1
  have hbr : At (w.setCell ⟨m, 1, none⟩ (.bool true)) m 37 #[.string (str l), .bool true] := by
    have := h.put 1 (.bool true)
    simpa using this
  have hgr := ((Chg.refl w.heap.size m w).set (.inr rfl) 1 (.bool true)).grown
  cases b
  · by_cases hle : n ≤ l.length
    · have hS : takeS l false n = (l.take n, l.drop n, false) := by simp [takeS, hle]
      rw [hS]
      have hA' : At (w.setCell ⟨m, 0, none⟩ (.string (str (l.drop n)))) m 37 #[.string (str (l.drop n)), .bool false] := by
        have := h.put 0 (.string (str (l.drop n)))
        simpa using this
      have hg' := ((Chg.refl w.heap.size m w).set (.inr rfl) 0 (.string (str (l.drop n)))).grown
      have hle' : (n : Int) ≤ (l.length : Int) := by omega
      clear h hbr hgr hS
      go_enter Try.func34, Try.ntmps34
      go_wp2
      go_ret
      exact ⟨rfl, hA', hg'⟩
    · have hS : takeS l false n = ([], l, true) := by simp [takeS, hle]
      rw [hS]
      have hlt' : (l.length : Int) < (n : Int) := by omega
      clear h hS hle
      go_enter Try.func34, Try.ntmps34
      go_wp2
      go_ret
      exact ⟨rfl, hbr, hgr⟩
  · have hS : takeS l true n = ([], l, true) := by simp [takeS]
    rw [hS]
    clear h hS
    go_enter Try.func34, Try.ntmps34
    go_wp2
    go_ret
    exact ⟨rfl, hbr, hgr⟩

end Go.Proofs.Ytjjmhkafhbeabaa.Oct

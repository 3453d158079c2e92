/-
  The sum of 256 bits of a text, in plain words: the constants by roots, a block, the padded text, blocks one behind the other; a text in pieces. No program here.
-/
import Derived.Laws.BitsAllLaws
namespace Go.Proofs.YtkailfajemeeaaaDoor.Sha
set_option linter.unusedVariables false

abbrev Wd := BitVec 32
def rotr (x : Wd) (n : Nat) : Wd := x >>> n ||| x <<< (32 - n)
def s0w (x : Wd) : Wd := rotr x 7 ^^^ rotr x 18 ^^^ x >>> 3
def s1w (x : Wd) : Wd := rotr x 17 ^^^ rotr x 19 ^^^ x >>> 10
def S0w (x : Wd) : Wd := rotr x 2 ^^^ rotr x 13 ^^^ rotr x 22
def S1w (x : Wd) : Wd := rotr x 6 ^^^ rotr x 11 ^^^ rotr x 25
def chW (e f g : Wd) : Wd := (e &&& f) ^^^ (~~~e &&& g)
def majW (a b c : Wd) : Wd := (a &&& b) ^^^ (a &&& c) ^^^ (b &&& c)
structure St8 where
  a : Wd
  b : Wd
  c : Wd
  d : Wd
  e : Wd
  f : Wd
  g : Wd
  h : Wd
  deriving DecidableEq

/-- The constants, by roots. -/
def primeB (n : Nat) : Bool := decide (1 < n) && ((List.range n).drop 2).all fun d => n % d != 0
def primesL (many : Nat) : List Nat := (((List.range 400).drop 2).filter primeB).take many
def belowB (n p : Nat) (cube : Bool) : Bool := if cube then decide (n * n * n ≤ p * 2 ^ 96) else decide (n * n ≤ p * 2 ^ 64)
/-- The root, from bit b downwards. -/
def rootF (p : Nat) (cube : Bool) : Nat → Nat → Nat
  | 0, n => n
  | b + 1, n => rootF p cube b (if belowB (n + 2 ^ b) p cube then n + 2 ^ b else n)
def fracW (p : Nat) (cube : Bool) : Wd := BitVec.ofNat 32 (rootF p cube 36 0)
def hsL : List Wd := (primesL 8).map fun p => fracW p false
def ksL : List Wd := (primesL 64).map fun p => fracW p true
def hT : List Wd := [0x6a09e667#32, 0xbb67ae85#32, 0x3c6ef372#32, 0xa54ff53a#32, 0x510e527f#32, 0x9b05688c#32, 0x1f83d9ab#32, 0x5be0cd19#32]
def kT : List Wd := [0x428a2f98#32, 0x71374491#32, 0xb5c0fbcf#32, 0xe9b5dba5#32, 0x3956c25b#32, 0x59f111f1#32, 0x923f82a4#32, 0xab1c5ed5#32, 0xd807aa98#32, 0x12835b01#32, 0x243185be#32, 0x550c7dc3#32, 0x72be5d74#32, 0x80deb1fe#32, 0x9bdc06a7#32, 0xc19bf174#32, 0xe49b69c1#32, 0xefbe4786#32, 0x0fc19dc6#32, 0x240ca1cc#32, 0x2de92c6f#32, 0x4a7484aa#32, 0x5cb0a9dc#32, 0x76f988da#32, 0x983e5152#32, 0xa831c66d#32, 0xb00327c8#32, 0xbf597fc7#32, 0xc6e00bf3#32, 0xd5a79147#32, 0x06ca6351#32, 0x14292967#32, 0x27b70a85#32, 0x2e1b2138#32, 0x4d2c6dfc#32, 0x53380d13#32, 0x650a7354#32, 0x766a0abb#32, 0x81c2c92e#32, 0x92722c85#32, 0xa2bfe8a1#32, 0xa81a664b#32, 0xc24b8b70#32, 0xc76c51a3#32, 0xd192e819#32, 0xd6990624#32, 0xf40e3585#32, 0x106aa070#32, 0x19a4c116#32, 0x1e376c08#32, 0x2748774c#32, 0x34b0bcb5#32, 0x391c0cb3#32, 0x4ed8aa4a#32, 0x5b9cca4f#32, 0x682e6ff3#32, 0x748f82ee#32, 0x78a5636f#32, 0x84c87814#32, 0x8cc70208#32, 0x90befffa#32, 0xa4506ceb#32, 0xbef9a3f7#32, 0xc67178f2#32]
set_option maxRecDepth 100000 in
theorem hs_eq : hsL = hT := by decide +kernel
set_option maxRecDepth 100000 in
theorem ks_eq : ksL = kT := by decide +kernel

/-- A block's words. -/
def beW (b : List Nat) (t : Nat) : Wd := BitVec.ofNat 32 (b.getD (4 * t) 0) <<< 24 ||| BitVec.ofNat 32 (b.getD (4 * t + 1) 0) <<< 16 ||| BitVec.ofNat 32 (b.getD (4 * t + 2) 0) <<< 8 ||| BitVec.ofNat 32 (b.getD (4 * t + 3) 0)
def nextW (b : List Nat) (w : List Wd) (t : Nat) : Wd :=
  if t < 16 then beW b t else s1w (w.getD (t - 2) 0) + w.getD (t - 7) 0 + s0w (w.getD (t - 15) 0) + w.getD (t - 16) 0
def wordsN (b : List Nat) : Nat → List Wd
  | 0 => []
  | t + 1 => wordsN b t ++ [nextW b (wordsN b t) t]
def round1 (s : St8) (k w : Wd) : St8 :=
  let t1 := s.h + S1w s.e + chW s.e s.f s.g + k + w
  ⟨t1 + (S0w s.a + majW s.a s.b s.c), s.a, s.b, s.c, s.d + t1, s.e, s.f, s.g⟩
def roundsN (s : St8) (ks ws : List Wd) : Nat → St8
  | 0 => s
  | t + 1 => round1 (roundsN s ks ws t) (ks.getD t 0) (ws.getD t 0)
def addS (s x : St8) : St8 := ⟨s.a + x.a, s.b + x.b, s.c + x.c, s.d + x.d, s.e + x.e, s.f + x.f, s.g + x.g, s.h + x.h⟩
def blockS (s : St8) (b : List Nat) : St8 := addS s (roundsN s kT (wordsN b 64) 64)
def initS : St8 := ⟨0x6a09e667#32, 0xbb67ae85#32, 0x3c6ef372#32, 0xa54ff53a#32, 0x510e527f#32, 0x9b05688c#32, 0x1f83d9ab#32, 0x5be0cd19#32⟩
/-- The state behind the first k blocks of these bytes. -/
def blksS (t : List Nat) : Nat → St8
  | 0 => initS
  | k + 1 => blockS (blksS t k) ((t.drop (64 * k)).take 64)
/-- What stands behind a text of n bytes. -/
def lenB (n i : Nat) : Nat := 8 * n / 2 ^ (8 * (7 - i)) % 256
def tailL (n : Nat) : List Nat := 128 :: List.replicate ((119 - n % 64) % 64) 0 ++ (List.range 8).map (lenB n)
def padL (t : List Nat) : List Nat := t ++ tailL t.length
def sumS (t : List Nat) : St8 := blksS (padL t) ((padL t).length / 64)
def wordB (x : Wd) : List Nat := [x.toNat / 2 ^ 24, x.toNat / 2 ^ 16 % 256, x.toNat / 2 ^ 8 % 256, x.toNat % 256]
def bytesS (s : St8) : List Nat := wordB s.a ++ wordB s.b ++ wordB s.c ++ wordB s.d ++ wordB s.e ++ wordB s.f ++ wordB s.g ++ wordB s.h
def sumL (t : List Nat) : List Nat := bytesS (sumS t)
theorem blks_app (t u : List Nat) : ∀ k, 64 * k ≤ t.length → blksS (t ++ u) k = blksS t k
  | 0, _ => rfl
  | k + 1, h => by
    unfold blksS
    rw [blks_app t u k (by omega), List.drop_append_of_le_length (by omega), List.take_append_of_le_length (by rw [List.length_drop]; omega)]
theorem tail_length (n : Nat) : (n + (tailL n).length) % 64 = 0 := by
  unfold tailL
  simp
  omega
theorem wordB_length (x : Wd) : (wordB x).length = 4 := rfl
theorem sumL_length (t : List Nat) : (sumL t).length = 32 := rfl
set_option maxRecDepth 100000 in
theorem sum_none : sumL [] = [0xe3, 0xb0, 0xc4, 0x42, 0x98, 0xfc, 0x1c, 0x14, 0x9a, 0xfb, 0xf4, 0xc8, 0x99, 0x6f, 0xb9, 0x24, 0x27, 0xae, 0x41, 0xe4, 0x64, 0x9b, 0x93, 0x4c, 0xa4, 0x95, 0x99, 0x1b, 0x78, 0x52, 0xb8, 0x55] := by decide +kernel

end Go.Proofs.YtkailfajemeeaaaDoor.Sha

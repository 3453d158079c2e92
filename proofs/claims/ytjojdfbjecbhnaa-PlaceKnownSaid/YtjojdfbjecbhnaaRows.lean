/-
  No cell of these rows narrows 'for every input' (looked for: loops, veiled, ifaces, maps, wideKeys, modest, calm, conditions, laid).
  DERIVED. THE GIVEN ROWS OF THIS SEAT. 5 by the template 'for every input the law returns true; each argument reads behind the call as it read before'; 0 by the template 'total and deterministic' (their statements: YtjojdfbjecbhnaaTotals.lean).
  GIVEN WITH THE SEED: the statements are not yours to turn. If you find one false, say at which input.
  Laid BY PROGRAM, IN A SANDBOX (cutbox-rows.mjs): the forced cells as the released guide's own fill.sh prints them over the translation 27b2246b8fc7e229… (all of the seat's roots in one cut). By AI agents, Wed Nov 11 2026. No macro, syntax, notation, axiom, sorry.
-/
import Derived.Test.YtjojdfbjecbhnaaChecked
import GoSem.Claim
import GoSem.ClaimJoined
import GoSem.ClaimMapViews
import Derived.JoinedTies
import Derived.KernelRfl
namespace Go.Proofs.Ytjojdfbjecbhnaa
/- THE CELL 'sum', in the pinned program and in every row, IS THE sha256 OF THE DUMP (.gsa) THAT YtjojdfbjecbhnaaProg.lean LOADS. Nothing in Lean hashes anything: it is a label: what it is worth is what the hold of that sum in a sandbox is worth. -/
noncomputable def Try.pinned : Pinned := { name := "ytjojdfbjecbhnaa", sum := "27b2246b8fc7e229725361d2580e17e8d76635c841432a40cf061f1f150ade8a", checked := Try.checked }
namespace Rows
def none {H : Type} : Left H := { results := [], args := [] }

/-- 'consignlaw02.PlaceTells': WHATEVER THE INPUT: true; the input reads as it did. -/
def placeTellsSpec : ChangeSpec := { name := "placeTells", fn := fun _ => fun
  | [d1, d2] => { results := [.lit (.bool true)], args := [d1, d2] }
  | _ => none }
def placeTellsRow : OpenClaim := { program := "ytjojdfbjecbhnaa", sum := "27b2246b8fc7e229725361d2580e17e8d76635c841432a40cf061f1f150ade8a", func := "consign/consignlaw02.PlaceTells", spec := "placeTells", unfollowed := true, recurses := true, apart := false }
def PlaceTellsSaid : Prop := placeTellsRow.holds Try.pinned (OpenSpec.ofChange placeTellsSpec)

/-- ITS FALSE NEIGHBOUR: 'it returns false'. Refute it at one input. -/
def placeTellsWrong : ChangeSpec := { name := "placeTells", fn := fun _ => fun
  | [d1, d2] => { results := [.lit (.bool false)], args := [d1, d2] }
  | _ => none }
def PlaceTellsWrongFalsely : Prop := placeTellsRow.holds Try.pinned (OpenSpec.ofChange placeTellsWrong)

/-- 'consignlaw02.PlaceNear': WHATEVER THE INPUT: true; the input reads as it did. -/
def placeNearSpec : ChangeSpec := { name := "placeNear", fn := fun _ => fun
  | [d1, d2] => { results := [.lit (.bool true)], args := [d1, d2] }
  | _ => none }
def placeNearRow : OpenClaim := { program := "ytjojdfbjecbhnaa", sum := "27b2246b8fc7e229725361d2580e17e8d76635c841432a40cf061f1f150ade8a", func := "consign/consignlaw02.PlaceNear", spec := "placeNear", unfollowed := true, recurses := true, apart := false }
def PlaceNearSaid : Prop := placeNearRow.holds Try.pinned (OpenSpec.ofChange placeNearSpec)

/-- ITS FALSE NEIGHBOUR: 'it returns false'. Refute it at one input. -/
def placeNearWrong : ChangeSpec := { name := "placeNear", fn := fun _ => fun
  | [d1, d2] => { results := [.lit (.bool false)], args := [d1, d2] }
  | _ => none }
def PlaceNearWrongFalsely : Prop := placeNearRow.holds Try.pinned (OpenSpec.ofChange placeNearWrong)

/-- 'consignlaw02.PlaceMetric': WHATEVER THE INPUT: true; the input reads as it did. -/
def placeMetricSpec : ChangeSpec := { name := "placeMetric", fn := fun _ => fun
  | [d1, d2, d3] => { results := [.lit (.bool true)], args := [d1, d2, d3] }
  | _ => none }
def placeMetricRow : OpenClaim := { program := "ytjojdfbjecbhnaa", sum := "27b2246b8fc7e229725361d2580e17e8d76635c841432a40cf061f1f150ade8a", func := "consign/consignlaw02.PlaceMetric", spec := "placeMetric", unfollowed := true, recurses := true, apart := false }
def PlaceMetricSaid : Prop := placeMetricRow.holds Try.pinned (OpenSpec.ofChange placeMetricSpec)

/-- ITS FALSE NEIGHBOUR: 'it returns false'. Refute it at one input. -/
def placeMetricWrong : ChangeSpec := { name := "placeMetric", fn := fun _ => fun
  | [d1, d2, d3] => { results := [.lit (.bool false)], args := [d1, d2, d3] }
  | _ => none }
def PlaceMetricWrongFalsely : Prop := placeMetricRow.holds Try.pinned (OpenSpec.ofChange placeMetricWrong)

/-- 'consignlaw02.PlaceWays': WHATEVER THE INPUT: true; the input reads as it did. -/
def placeWaysSpec : ChangeSpec := { name := "placeWays", fn := fun _ => fun
  | [d1, d2, d3] => { results := [.lit (.bool true)], args := [d1, d2, d3] }
  | _ => none }
def placeWaysRow : OpenClaim := { program := "ytjojdfbjecbhnaa", sum := "27b2246b8fc7e229725361d2580e17e8d76635c841432a40cf061f1f150ade8a", func := "consign/consignlaw02.PlaceWays", spec := "placeWays", unfollowed := true, recurses := true, apart := false }
def PlaceWaysSaid : Prop := placeWaysRow.holds Try.pinned (OpenSpec.ofChange placeWaysSpec)

/-- ITS FALSE NEIGHBOUR: 'it returns false'. Refute it at one input. -/
def placeWaysWrong : ChangeSpec := { name := "placeWays", fn := fun _ => fun
  | [d1, d2, d3] => { results := [.lit (.bool false)], args := [d1, d2, d3] }
  | _ => none }
def PlaceWaysWrongFalsely : Prop := placeWaysRow.holds Try.pinned (OpenSpec.ofChange placeWaysWrong)

/-- 'consignlaw02.PlaceKnown': WHATEVER THE INPUT: true; the input reads as it did. -/
def placeKnownSpec : ChangeSpec := { name := "placeKnown", fn := fun _ => fun
  | [] => { results := [.lit (.bool true)], args := [] }
  | _ => none }
def placeKnownRow : OpenClaim := { program := "ytjojdfbjecbhnaa", sum := "27b2246b8fc7e229725361d2580e17e8d76635c841432a40cf061f1f150ade8a", func := "consign/consignlaw02.PlaceKnown", spec := "placeKnown", unfollowed := true, recurses := true, apart := false }
def PlaceKnownSaid : Prop := placeKnownRow.holds Try.pinned (OpenSpec.ofChange placeKnownSpec)

/-- ITS FALSE NEIGHBOUR: 'it returns false'. Refute it at one input. -/
def placeKnownWrong : ChangeSpec := { name := "placeKnown", fn := fun _ => fun
  | [] => { results := [.lit (.bool false)], args := [] }
  | _ => none }
def PlaceKnownWrongFalsely : Prop := placeKnownRow.holds Try.pinned (OpenSpec.ofChange placeKnownWrong)

/- THE SECOND FORM. 'bulk': how many values and letters a reading holds, each counted each time it is reached (what is shared counts as often as it is met; a slice's spare places count too). A statement '..UptoSaid' is the law's where the arguments, and the package variables that the reading takes, are together of bulk at most 1048576: NARROWER than '..Said'. Prove '..Said' where nothing that the law and all that it calls make is longer than what came in: it says more and counts as full. Else prove '..UptoSaid'. A law counts once. -/
mutual
def uptoBulk {H : Type} : DataW H → Nat
  | .lit (.string bytes) => bytes.length + 1
  | .lit _ => 1
  | .nil => 1
  | .ptr d => uptoBulk d + 1
  | .slice elems spare => uptoBulkAll elems + uptoBulkAll spare + 1
  | .agg parts => uptoBulkAll parts + 1
  | .iface _ d => uptoBulk d + 1
  | .map entries => uptoBulkEntries entries + 1
  | .held _ => 1
def uptoBulkAll {H : Type} : List (DataW H) → Nat
  | [] => 0
  | d :: r => uptoBulk d + uptoBulkAll r
def uptoBulkEntries {H : Type} : List (Lit × DataW H) → Nat
  | [] => 0
  | x :: r => uptoBulkEntry x + uptoBulkEntries r
def uptoBulkEntry {H : Type} : Lit × DataW H → Nat
  | (.string bytes, d) => bytes.length + uptoBulk d + 1
  | (_, d) => uptoBulk d + 1
 end
def uptoSmall : (H : Type) → List (DataW H) → Bool := fun _ ds => decide (uptoBulkAll ds ≤ 1048576)
def OpenSpec.upto (s : _root_.Go.ChangeSpec) : _root_.Go.OpenSpec := { _root_.Go.OpenSpec.ofChange s with cond := some uptoSmall }

/-- 'consignlaw02.PlaceTells', WHERE WHAT IT READS IS OF BULK AT MOST 1048576: true; the input reads as it did. -/
def placeTellsUptoRow : OpenClaim := { program := "ytjojdfbjecbhnaa", sum := "27b2246b8fc7e229725361d2580e17e8d76635c841432a40cf061f1f150ade8a", func := "consign/consignlaw02.PlaceTells", spec := "placeTells", unfollowed := true, recurses := true, apart := false, narrowed := true }
def PlaceTellsUptoSaid : Prop := placeTellsUptoRow.holds Try.pinned (OpenSpec.upto placeTellsSpec)

/-- 'consignlaw02.PlaceNear', WHERE WHAT IT READS IS OF BULK AT MOST 1048576: true; the input reads as it did. -/
def placeNearUptoRow : OpenClaim := { program := "ytjojdfbjecbhnaa", sum := "27b2246b8fc7e229725361d2580e17e8d76635c841432a40cf061f1f150ade8a", func := "consign/consignlaw02.PlaceNear", spec := "placeNear", unfollowed := true, recurses := true, apart := false, narrowed := true }
def PlaceNearUptoSaid : Prop := placeNearUptoRow.holds Try.pinned (OpenSpec.upto placeNearSpec)

/-- 'consignlaw02.PlaceMetric', WHERE WHAT IT READS IS OF BULK AT MOST 1048576: true; the input reads as it did. -/
def placeMetricUptoRow : OpenClaim := { program := "ytjojdfbjecbhnaa", sum := "27b2246b8fc7e229725361d2580e17e8d76635c841432a40cf061f1f150ade8a", func := "consign/consignlaw02.PlaceMetric", spec := "placeMetric", unfollowed := true, recurses := true, apart := false, narrowed := true }
def PlaceMetricUptoSaid : Prop := placeMetricUptoRow.holds Try.pinned (OpenSpec.upto placeMetricSpec)

/-- 'consignlaw02.PlaceWays', WHERE WHAT IT READS IS OF BULK AT MOST 1048576: true; the input reads as it did. -/
def placeWaysUptoRow : OpenClaim := { program := "ytjojdfbjecbhnaa", sum := "27b2246b8fc7e229725361d2580e17e8d76635c841432a40cf061f1f150ade8a", func := "consign/consignlaw02.PlaceWays", spec := "placeWays", unfollowed := true, recurses := true, apart := false, narrowed := true }
def PlaceWaysUptoSaid : Prop := placeWaysUptoRow.holds Try.pinned (OpenSpec.upto placeWaysSpec)

/-- 'consignlaw02.PlaceKnown', WHERE WHAT IT READS IS OF BULK AT MOST 1048576: true; the input reads as it did. -/
def placeKnownUptoRow : OpenClaim := { program := "ytjojdfbjecbhnaa", sum := "27b2246b8fc7e229725361d2580e17e8d76635c841432a40cf061f1f150ade8a", func := "consign/consignlaw02.PlaceKnown", spec := "placeKnown", unfollowed := true, recurses := true, apart := false, narrowed := true }
def PlaceKnownUptoSaid : Prop := placeKnownUptoRow.holds Try.pinned (OpenSpec.upto placeKnownSpec)

end Rows
end Go.Proofs.Ytjojdfbjecbhnaa

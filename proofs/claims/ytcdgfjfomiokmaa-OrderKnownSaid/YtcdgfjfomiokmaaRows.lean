/-
  No cell of these rows narrows 'for every input' (looked for: loops, veiled, ifaces, maps, wideKeys, modest, calm, conditions, laid).
  DERIVED. THE GIVEN ROWS OF THIS SEAT. 5 by the template 'for every input the law returns true; each argument reads behind the call as it read before'; 0 by the template 'total and deterministic' (their statements: YtcdgfjfomiokmaaTotals.lean).
  GIVEN WITH THE SEED: the statements are not yours to turn. If you find one false, say at which input.
  Laid BY PROGRAM, IN A SANDBOX (cutbox-rows.mjs): the forced cells as the released guide's own fill.sh prints them over the translation 2848486e29b5d246… (all of the seat's roots in one cut). By AI agents, Wed Nov 11 2026. No macro, syntax, notation, axiom, sorry.
-/
import Derived.Test.YtcdgfjfomiokmaaChecked
import GoSem.Claim
import GoSem.ClaimJoined
import GoSem.ClaimMapViews
import Derived.JoinedTies
import Derived.KernelRfl
namespace Go.Proofs.Ytcdgfjfomiokmaa
/- THE CELL 'sum', in the pinned program and in every row, IS THE sha256 OF THE DUMP (.gsa) THAT YtcdgfjfomiokmaaProg.lean LOADS. Nothing in Lean hashes anything: it is a label: what it is worth is what the hold of that sum in a sandbox is worth. -/
noncomputable def Try.pinned : Pinned := { name := "ytcdgfjfomiokmaa", sum := "2848486e29b5d24642c138ec0029f690426c90ad99b14af545303ac398737f3b", checked := Try.checked }
namespace Rows
def none {H : Type} : Left H := { results := [], args := [] }

/-- 'consignlaw04.OrderChecks': WHATEVER THE INPUT: true; the input reads as it did. -/
def orderChecksSpec : ChangeSpec := { name := "orderChecks", fn := fun _ => fun
  | [d1, d2, d3] => { results := [.lit (.bool true)], args := [d1, d2, d3] }
  | _ => none }
def orderChecksRow : OpenClaim := { program := "ytcdgfjfomiokmaa", sum := "2848486e29b5d24642c138ec0029f690426c90ad99b14af545303ac398737f3b", func := "consign/consignlaw04.OrderChecks", spec := "orderChecks", unfollowed := true, recurses := true, apart := false }
def OrderChecksSaid : Prop := orderChecksRow.holds Try.pinned (OpenSpec.ofChange orderChecksSpec)

/-- ITS FALSE NEIGHBOUR: 'it returns false'. Refute it at one input. -/
def orderChecksWrong : ChangeSpec := { name := "orderChecks", fn := fun _ => fun
  | [d1, d2, d3] => { results := [.lit (.bool false)], args := [d1, d2, d3] }
  | _ => none }
def OrderChecksWrongFalsely : Prop := orderChecksRow.holds Try.pinned (OpenSpec.ofChange orderChecksWrong)

/-- 'consignlaw04.OrderAlone': WHATEVER THE INPUT: true; the input reads as it did. -/
def orderAloneSpec : ChangeSpec := { name := "orderAlone", fn := fun _ => fun
  | [d1, d2] => { results := [.lit (.bool true)], args := [d1, d2] }
  | _ => none }
def orderAloneRow : OpenClaim := { program := "ytcdgfjfomiokmaa", sum := "2848486e29b5d24642c138ec0029f690426c90ad99b14af545303ac398737f3b", func := "consign/consignlaw04.OrderAlone", spec := "orderAlone", unfollowed := true, recurses := true, apart := false }
def OrderAloneSaid : Prop := orderAloneRow.holds Try.pinned (OpenSpec.ofChange orderAloneSpec)

/-- ITS FALSE NEIGHBOUR: 'it returns false'. Refute it at one input. -/
def orderAloneWrong : ChangeSpec := { name := "orderAlone", fn := fun _ => fun
  | [d1, d2] => { results := [.lit (.bool false)], args := [d1, d2] }
  | _ => none }
def OrderAloneWrongFalsely : Prop := orderAloneRow.holds Try.pinned (OpenSpec.ofChange orderAloneWrong)

/-- 'consignlaw04.OrderTight': WHATEVER THE INPUT: true; the input reads as it did. -/
def orderTightSpec : ChangeSpec := { name := "orderTight", fn := fun _ => fun
  | [d1, d2, d3] => { results := [.lit (.bool true)], args := [d1, d2, d3] }
  | _ => none }
def orderTightRow : OpenClaim := { program := "ytcdgfjfomiokmaa", sum := "2848486e29b5d24642c138ec0029f690426c90ad99b14af545303ac398737f3b", func := "consign/consignlaw04.OrderTight", spec := "orderTight", unfollowed := true, recurses := true, apart := false }
def OrderTightSaid : Prop := orderTightRow.holds Try.pinned (OpenSpec.ofChange orderTightSpec)

/-- ITS FALSE NEIGHBOUR: 'it returns false'. Refute it at one input. -/
def orderTightWrong : ChangeSpec := { name := "orderTight", fn := fun _ => fun
  | [d1, d2, d3] => { results := [.lit (.bool false)], args := [d1, d2, d3] }
  | _ => none }
def OrderTightWrongFalsely : Prop := orderTightRow.holds Try.pinned (OpenSpec.ofChange orderTightWrong)

/-- 'consignlaw04.OrderEarly': WHATEVER THE INPUT: true; the input reads as it did. -/
def orderEarlySpec : ChangeSpec := { name := "orderEarly", fn := fun _ => fun
  | [d1, d2, d3] => { results := [.lit (.bool true)], args := [d1, d2, d3] }
  | _ => none }
def orderEarlyRow : OpenClaim := { program := "ytcdgfjfomiokmaa", sum := "2848486e29b5d24642c138ec0029f690426c90ad99b14af545303ac398737f3b", func := "consign/consignlaw04.OrderEarly", spec := "orderEarly", unfollowed := true, recurses := true, apart := false }
def OrderEarlySaid : Prop := orderEarlyRow.holds Try.pinned (OpenSpec.ofChange orderEarlySpec)

/-- ITS FALSE NEIGHBOUR: 'it returns false'. Refute it at one input. -/
def orderEarlyWrong : ChangeSpec := { name := "orderEarly", fn := fun _ => fun
  | [d1, d2, d3] => { results := [.lit (.bool false)], args := [d1, d2, d3] }
  | _ => none }
def OrderEarlyWrongFalsely : Prop := orderEarlyRow.holds Try.pinned (OpenSpec.ofChange orderEarlyWrong)

/-- 'consignlaw04.OrderKnown': WHATEVER THE INPUT: true; the input reads as it did. -/
def orderKnownSpec : ChangeSpec := { name := "orderKnown", fn := fun _ => fun
  | [] => { results := [.lit (.bool true)], args := [] }
  | _ => none }
def orderKnownRow : OpenClaim := { program := "ytcdgfjfomiokmaa", sum := "2848486e29b5d24642c138ec0029f690426c90ad99b14af545303ac398737f3b", func := "consign/consignlaw04.OrderKnown", spec := "orderKnown", unfollowed := true, recurses := true, apart := false }
def OrderKnownSaid : Prop := orderKnownRow.holds Try.pinned (OpenSpec.ofChange orderKnownSpec)

/-- ITS FALSE NEIGHBOUR: 'it returns false'. Refute it at one input. -/
def orderKnownWrong : ChangeSpec := { name := "orderKnown", fn := fun _ => fun
  | [] => { results := [.lit (.bool false)], args := [] }
  | _ => none }
def OrderKnownWrongFalsely : Prop := orderKnownRow.holds Try.pinned (OpenSpec.ofChange orderKnownWrong)

/- THE SECOND FORM. 'bulk': how many values and letters a reading holds, each counted each time it is reached (what is shared counts as often as it is met; a slice's spare places count too). A statement '..UptoSaid' is the law's where the arguments, and the package variables that the reading takes, are together of bulk at most 1048576: NARROWER than '..Said'. Prove '..Said' where nothing that the law and all that it calls make is longer than what came in: it says more and counts as full. Else prove '..UptoSaid'. A law counts once. -/
mutual
def uptoBulk {H : Type} : DataW H → Nat
  | .lit (.string bytes) => bytes.length + 1
  | .lit _ => 1
  | .nil => 1
  | .ptr d => uptoBulk d + 1
  | .slice elems spare => uptoBulkAll elems + uptoBulkAll spare + 1
  | .agg parts => uptoBulkAll parts + 1
  | .iface _ d => uptoBulk d + 1
  | .map entries => uptoBulkEntries entries + 1
  | .held _ => 1
def uptoBulkAll {H : Type} : List (DataW H) → Nat
  | [] => 0
  | d :: r => uptoBulk d + uptoBulkAll r
def uptoBulkEntries {H : Type} : List (Lit × DataW H) → Nat
  | [] => 0
  | x :: r => uptoBulkEntry x + uptoBulkEntries r
def uptoBulkEntry {H : Type} : Lit × DataW H → Nat
  | (.string bytes, d) => bytes.length + uptoBulk d + 1
  | (_, d) => uptoBulk d + 1
 end
def uptoSmall : (H : Type) → List (DataW H) → Bool := fun _ ds => decide (uptoBulkAll ds ≤ 1048576)
def OpenSpec.upto (s : _root_.Go.ChangeSpec) : _root_.Go.OpenSpec := { _root_.Go.OpenSpec.ofChange s with cond := some uptoSmall }

/-- 'consignlaw04.OrderChecks', WHERE WHAT IT READS IS OF BULK AT MOST 1048576: true; the input reads as it did. -/
def orderChecksUptoRow : OpenClaim := { program := "ytcdgfjfomiokmaa", sum := "2848486e29b5d24642c138ec0029f690426c90ad99b14af545303ac398737f3b", func := "consign/consignlaw04.OrderChecks", spec := "orderChecks", unfollowed := true, recurses := true, apart := false, narrowed := true }
def OrderChecksUptoSaid : Prop := orderChecksUptoRow.holds Try.pinned (OpenSpec.upto orderChecksSpec)

/-- 'consignlaw04.OrderAlone', WHERE WHAT IT READS IS OF BULK AT MOST 1048576: true; the input reads as it did. -/
def orderAloneUptoRow : OpenClaim := { program := "ytcdgfjfomiokmaa", sum := "2848486e29b5d24642c138ec0029f690426c90ad99b14af545303ac398737f3b", func := "consign/consignlaw04.OrderAlone", spec := "orderAlone", unfollowed := true, recurses := true, apart := false, narrowed := true }
def OrderAloneUptoSaid : Prop := orderAloneUptoRow.holds Try.pinned (OpenSpec.upto orderAloneSpec)

/-- 'consignlaw04.OrderTight', WHERE WHAT IT READS IS OF BULK AT MOST 1048576: true; the input reads as it did. -/
def orderTightUptoRow : OpenClaim := { program := "ytcdgfjfomiokmaa", sum := "2848486e29b5d24642c138ec0029f690426c90ad99b14af545303ac398737f3b", func := "consign/consignlaw04.OrderTight", spec := "orderTight", unfollowed := true, recurses := true, apart := false, narrowed := true }
def OrderTightUptoSaid : Prop := orderTightUptoRow.holds Try.pinned (OpenSpec.upto orderTightSpec)

/-- 'consignlaw04.OrderEarly', WHERE WHAT IT READS IS OF BULK AT MOST 1048576: true; the input reads as it did. -/
def orderEarlyUptoRow : OpenClaim := { program := "ytcdgfjfomiokmaa", sum := "2848486e29b5d24642c138ec0029f690426c90ad99b14af545303ac398737f3b", func := "consign/consignlaw04.OrderEarly", spec := "orderEarly", unfollowed := true, recurses := true, apart := false, narrowed := true }
def OrderEarlyUptoSaid : Prop := orderEarlyUptoRow.holds Try.pinned (OpenSpec.upto orderEarlySpec)

/-- 'consignlaw04.OrderKnown', WHERE WHAT IT READS IS OF BULK AT MOST 1048576: true; the input reads as it did. -/
def orderKnownUptoRow : OpenClaim := { program := "ytcdgfjfomiokmaa", sum := "2848486e29b5d24642c138ec0029f690426c90ad99b14af545303ac398737f3b", func := "consign/consignlaw04.OrderKnown", spec := "orderKnown", unfollowed := true, recurses := true, apart := false, narrowed := true }
def OrderKnownUptoSaid : Prop := orderKnownUptoRow.holds Try.pinned (OpenSpec.upto orderKnownSpec)

end Rows
end Go.Proofs.Ytcdgfjfomiokmaa

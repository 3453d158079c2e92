/-
  No cell of these rows narrows 'for every input' (looked for: loops, veiled, ifaces, maps, wideKeys, modest, calm, conditions, laid).
  DERIVED. THE GIVEN ROWS OF THIS SEAT. 4 by the template 'for every input the law returns true; each argument reads behind the call as it read before'; 0 by the template 'total and deterministic' (their statements: YtphpkcndaifoiaaTotals.lean).
  GIVEN WITH THE SEED: the statements are not yours to turn. If you find one false, say at which input.
  Laid BY PROGRAM, IN A SANDBOX (cutbox-rows.mjs): the forced cells as the released guide's own fill.sh prints them over the translation 57044f7c511aa8ea… (all of the seat's roots in one cut). By AI agents, Wed Nov 11 2026. No macro, syntax, notation, axiom, sorry.
-/
import Derived.Test.YtphpkcndaifoiaaChecked
import GoSem.Claim
import GoSem.ClaimJoined
import GoSem.ClaimMapViews
import Derived.JoinedTies
import Derived.KernelRfl
namespace Go.Proofs.Ytphpkcndaifoiaa
/- THE CELL 'sum', in the pinned program and in every row, IS THE sha256 OF THE DUMP (.gsa) THAT YtphpkcndaifoiaaProg.lean LOADS. Nothing in Lean hashes anything: it is a label: what it is worth is what the hold of that sum in a sandbox is worth. -/
noncomputable def Try.pinned : Pinned := { name := "ytphpkcndaifoiaa", sum := "57044f7c511aa8ea446b8f0d530907df39e89153d9f1f4ad706d149a1387680e", checked := Try.checked }
namespace Rows
def none {H : Type} : Left H := { results := [], args := [] }

/-- 'consignlaw07.SchedTells': WHATEVER THE INPUT: true; the input reads as it did. -/
def schedTellsSpec : ChangeSpec := { name := "schedTells", fn := fun _ => fun
  | [d1, d2, d3] => { results := [.lit (.bool true)], args := [d1, d2, d3] }
  | _ => none }
def schedTellsRow : OpenClaim := { program := "ytphpkcndaifoiaa", sum := "57044f7c511aa8ea446b8f0d530907df39e89153d9f1f4ad706d149a1387680e", func := "consign/consignlaw07.SchedTells", spec := "schedTells", unfollowed := true, recurses := true, apart := false }
def SchedTellsSaid : Prop := schedTellsRow.holds Try.pinned (OpenSpec.ofChange schedTellsSpec)

/-- ITS FALSE NEIGHBOUR: 'it returns false'. Refute it at one input. -/
def schedTellsWrong : ChangeSpec := { name := "schedTells", fn := fun _ => fun
  | [d1, d2, d3] => { results := [.lit (.bool false)], args := [d1, d2, d3] }
  | _ => none }
def SchedTellsWrongFalsely : Prop := schedTellsRow.holds Try.pinned (OpenSpec.ofChange schedTellsWrong)

/-- 'consignlaw07.SchedGoes': WHATEVER THE INPUT: true; the input reads as it did. -/
def schedGoesSpec : ChangeSpec := { name := "schedGoes", fn := fun _ => fun
  | [d] => { results := [.lit (.bool true)], args := [d] }
  | _ => none }
def schedGoesRow : OpenClaim := { program := "ytphpkcndaifoiaa", sum := "57044f7c511aa8ea446b8f0d530907df39e89153d9f1f4ad706d149a1387680e", func := "consign/consignlaw07.SchedGoes", spec := "schedGoes", unfollowed := true, recurses := true, apart := false }
def SchedGoesSaid : Prop := schedGoesRow.holds Try.pinned (OpenSpec.ofChange schedGoesSpec)

/-- ITS FALSE NEIGHBOUR: 'it returns false'. Refute it at one input. -/
def schedGoesWrong : ChangeSpec := { name := "schedGoes", fn := fun _ => fun
  | [d] => { results := [.lit (.bool false)], args := [d] }
  | _ => none }
def SchedGoesWrongFalsely : Prop := schedGoesRow.holds Try.pinned (OpenSpec.ofChange schedGoesWrong)

/-- 'consignlaw07.SchedLater': WHATEVER THE INPUT: true; the input reads as it did. -/
def schedLaterSpec : ChangeSpec := { name := "schedLater", fn := fun _ => fun
  | [d1, d2] => { results := [.lit (.bool true)], args := [d1, d2] }
  | _ => none }
def schedLaterRow : OpenClaim := { program := "ytphpkcndaifoiaa", sum := "57044f7c511aa8ea446b8f0d530907df39e89153d9f1f4ad706d149a1387680e", func := "consign/consignlaw07.SchedLater", spec := "schedLater", unfollowed := true, recurses := true, apart := false }
def SchedLaterSaid : Prop := schedLaterRow.holds Try.pinned (OpenSpec.ofChange schedLaterSpec)

/-- ITS FALSE NEIGHBOUR: 'it returns false'. Refute it at one input. -/
def schedLaterWrong : ChangeSpec := { name := "schedLater", fn := fun _ => fun
  | [d1, d2] => { results := [.lit (.bool false)], args := [d1, d2] }
  | _ => none }
def SchedLaterWrongFalsely : Prop := schedLaterRow.holds Try.pinned (OpenSpec.ofChange schedLaterWrong)

/-- 'consignlaw07.SchedKnown': WHATEVER THE INPUT: true; the input reads as it did. -/
def schedKnownSpec : ChangeSpec := { name := "schedKnown", fn := fun _ => fun
  | [] => { results := [.lit (.bool true)], args := [] }
  | _ => none }
def schedKnownRow : OpenClaim := { program := "ytphpkcndaifoiaa", sum := "57044f7c511aa8ea446b8f0d530907df39e89153d9f1f4ad706d149a1387680e", func := "consign/consignlaw07.SchedKnown", spec := "schedKnown", unfollowed := true, recurses := true, apart := false }
def SchedKnownSaid : Prop := schedKnownRow.holds Try.pinned (OpenSpec.ofChange schedKnownSpec)

/-- ITS FALSE NEIGHBOUR: 'it returns false'. Refute it at one input. -/
def schedKnownWrong : ChangeSpec := { name := "schedKnown", fn := fun _ => fun
  | [] => { results := [.lit (.bool false)], args := [] }
  | _ => none }
def SchedKnownWrongFalsely : Prop := schedKnownRow.holds Try.pinned (OpenSpec.ofChange schedKnownWrong)

/- THE SECOND FORM. 'bulk': how many values and letters a reading holds, each counted each time it is reached (what is shared counts as often as it is met; a slice's spare places count too). A statement '..UptoSaid' is the law's where the arguments, and the package variables that the reading takes, are together of bulk at most 1048576: NARROWER than '..Said'. Prove '..Said' where nothing that the law and all that it calls make is longer than what came in: it says more and counts as full. Else prove '..UptoSaid'. A law counts once. -/
mutual
def uptoBulk {H : Type} : DataW H → Nat
  | .lit (.string bytes) => bytes.length + 1
  | .lit _ => 1
  | .nil => 1
  | .ptr d => uptoBulk d + 1
  | .slice elems spare => uptoBulkAll elems + uptoBulkAll spare + 1
  | .agg parts => uptoBulkAll parts + 1
  | .iface _ d => uptoBulk d + 1
  | .map entries => uptoBulkEntries entries + 1
  | .held _ => 1
def uptoBulkAll {H : Type} : List (DataW H) → Nat
  | [] => 0
  | d :: r => uptoBulk d + uptoBulkAll r
def uptoBulkEntries {H : Type} : List (Lit × DataW H) → Nat
  | [] => 0
  | x :: r => uptoBulkEntry x + uptoBulkEntries r
def uptoBulkEntry {H : Type} : Lit × DataW H → Nat
  | (.string bytes, d) => bytes.length + uptoBulk d + 1
  | (_, d) => uptoBulk d + 1
 end
def uptoSmall : (H : Type) → List (DataW H) → Bool := fun _ ds => decide (uptoBulkAll ds ≤ 1048576)
def OpenSpec.upto (s : _root_.Go.ChangeSpec) : _root_.Go.OpenSpec := { _root_.Go.OpenSpec.ofChange s with cond := some uptoSmall }

/-- 'consignlaw07.SchedTells', WHERE WHAT IT READS IS OF BULK AT MOST 1048576: true; the input reads as it did. -/
def schedTellsUptoRow : OpenClaim := { program := "ytphpkcndaifoiaa", sum := "57044f7c511aa8ea446b8f0d530907df39e89153d9f1f4ad706d149a1387680e", func := "consign/consignlaw07.SchedTells", spec := "schedTells", unfollowed := true, recurses := true, apart := false, narrowed := true }
def SchedTellsUptoSaid : Prop := schedTellsUptoRow.holds Try.pinned (OpenSpec.upto schedTellsSpec)

/-- 'consignlaw07.SchedGoes', WHERE WHAT IT READS IS OF BULK AT MOST 1048576: true; the input reads as it did. -/
def schedGoesUptoRow : OpenClaim := { program := "ytphpkcndaifoiaa", sum := "57044f7c511aa8ea446b8f0d530907df39e89153d9f1f4ad706d149a1387680e", func := "consign/consignlaw07.SchedGoes", spec := "schedGoes", unfollowed := true, recurses := true, apart := false, narrowed := true }
def SchedGoesUptoSaid : Prop := schedGoesUptoRow.holds Try.pinned (OpenSpec.upto schedGoesSpec)

/-- 'consignlaw07.SchedLater', WHERE WHAT IT READS IS OF BULK AT MOST 1048576: true; the input reads as it did. -/
def schedLaterUptoRow : OpenClaim := { program := "ytphpkcndaifoiaa", sum := "57044f7c511aa8ea446b8f0d530907df39e89153d9f1f4ad706d149a1387680e", func := "consign/consignlaw07.SchedLater", spec := "schedLater", unfollowed := true, recurses := true, apart := false, narrowed := true }
def SchedLaterUptoSaid : Prop := schedLaterUptoRow.holds Try.pinned (OpenSpec.upto schedLaterSpec)

/-- 'consignlaw07.SchedKnown', WHERE WHAT IT READS IS OF BULK AT MOST 1048576: true; the input reads as it did. -/
def schedKnownUptoRow : OpenClaim := { program := "ytphpkcndaifoiaa", sum := "57044f7c511aa8ea446b8f0d530907df39e89153d9f1f4ad706d149a1387680e", func := "consign/consignlaw07.SchedKnown", spec := "schedKnown", unfollowed := true, recurses := true, apart := false, narrowed := true }
def SchedKnownUptoSaid : Prop := schedKnownUptoRow.holds Try.pinned (OpenSpec.upto schedKnownSpec)

end Rows
end Go.Proofs.Ytphpkcndaifoiaa

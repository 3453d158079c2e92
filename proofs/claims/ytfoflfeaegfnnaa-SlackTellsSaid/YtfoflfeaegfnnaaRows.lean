/-
  No cell of these rows narrows 'for every input' (looked for: loops, veiled, ifaces, maps, wideKeys, modest, calm, conditions, laid).
  DERIVED. THE GIVEN ROWS OF THIS SEAT. 4 by the template 'for every input the law returns true; each argument reads behind the call as it read before'; 0 by the template 'total and deterministic' (their statements: YtfoflfeaegfnnaaTotals.lean).
  GIVEN WITH THE SEED: the statements are not yours to turn. If you find one false, say at which input.
  Laid BY PROGRAM, IN A SANDBOX (cutbox-rows.mjs): the forced cells as the released guide's own fill.sh prints them over the translation 3b1dd22676c3df27… (all of the seat's roots in one cut). By AI agents, Wed Nov 11 2026. No macro, syntax, notation, axiom, sorry.
-/
import Derived.Test.YtfoflfeaegfnnaaChecked
import GoSem.Claim
import GoSem.ClaimJoined
import GoSem.ClaimMapViews
import Derived.JoinedTies
import Derived.KernelRfl
namespace Go.Proofs.Ytfoflfeaegfnnaa
/- THE CELL 'sum', in the pinned program and in every row, IS THE sha256 OF THE DUMP (.gsa) THAT YtfoflfeaegfnnaaProg.lean LOADS. Nothing in Lean hashes anything: it is a label: what it is worth is what the hold of that sum in a sandbox is worth. -/
noncomputable def Try.pinned : Pinned := { name := "ytfoflfeaegfnnaa", sum := "3b1dd22676c3df27fc77f05a039cb0e26e41a4aca14f11d94099634deef81918", checked := Try.checked }
namespace Rows
def none {H : Type} : Left H := { results := [], args := [] }

/-- 'consignlaw10.SlackTells': WHATEVER THE INPUT: true; the input reads as it did. -/
def slackTellsSpec : ChangeSpec := { name := "slackTells", fn := fun _ => fun
  | [d1, d2, d3] => { results := [.lit (.bool true)], args := [d1, d2, d3] }
  | _ => none }
def slackTellsRow : OpenClaim := { program := "ytfoflfeaegfnnaa", sum := "3b1dd22676c3df27fc77f05a039cb0e26e41a4aca14f11d94099634deef81918", func := "consign/consignlaw10.SlackTells", spec := "slackTells", unfollowed := true, recurses := true, apart := false }
def SlackTellsSaid : Prop := slackTellsRow.holds Try.pinned (OpenSpec.ofChange slackTellsSpec)

/-- ITS FALSE NEIGHBOUR: 'it returns false'. Refute it at one input. -/
def slackTellsWrong : ChangeSpec := { name := "slackTells", fn := fun _ => fun
  | [d1, d2, d3] => { results := [.lit (.bool false)], args := [d1, d2, d3] }
  | _ => none }
def SlackTellsWrongFalsely : Prop := slackTellsRow.holds Try.pinned (OpenSpec.ofChange slackTellsWrong)

/-- 'consignlaw10.SlackFloats': WHATEVER THE INPUT: true; the input reads as it did. -/
def slackFloatsSpec : ChangeSpec := { name := "slackFloats", fn := fun _ => fun
  | [d1, d2, d3] => { results := [.lit (.bool true)], args := [d1, d2, d3] }
  | _ => none }
def slackFloatsRow : OpenClaim := { program := "ytfoflfeaegfnnaa", sum := "3b1dd22676c3df27fc77f05a039cb0e26e41a4aca14f11d94099634deef81918", func := "consign/consignlaw10.SlackFloats", spec := "slackFloats", unfollowed := true, recurses := true, apart := false }
def SlackFloatsSaid : Prop := slackFloatsRow.holds Try.pinned (OpenSpec.ofChange slackFloatsSpec)

/-- ITS FALSE NEIGHBOUR: 'it returns false'. Refute it at one input. -/
def slackFloatsWrong : ChangeSpec := { name := "slackFloats", fn := fun _ => fun
  | [d1, d2, d3] => { results := [.lit (.bool false)], args := [d1, d2, d3] }
  | _ => none }
def SlackFloatsWrongFalsely : Prop := slackFloatsRow.holds Try.pinned (OpenSpec.ofChange slackFloatsWrong)

/-- 'consignlaw10.SlackRises': WHATEVER THE INPUT: true; the input reads as it did. -/
def slackRisesSpec : ChangeSpec := { name := "slackRises", fn := fun _ => fun
  | [d] => { results := [.lit (.bool true)], args := [d] }
  | _ => none }
def slackRisesRow : OpenClaim := { program := "ytfoflfeaegfnnaa", sum := "3b1dd22676c3df27fc77f05a039cb0e26e41a4aca14f11d94099634deef81918", func := "consign/consignlaw10.SlackRises", spec := "slackRises", unfollowed := true, recurses := true, apart := false }
def SlackRisesSaid : Prop := slackRisesRow.holds Try.pinned (OpenSpec.ofChange slackRisesSpec)

/-- ITS FALSE NEIGHBOUR: 'it returns false'. Refute it at one input. -/
def slackRisesWrong : ChangeSpec := { name := "slackRises", fn := fun _ => fun
  | [d] => { results := [.lit (.bool false)], args := [d] }
  | _ => none }
def SlackRisesWrongFalsely : Prop := slackRisesRow.holds Try.pinned (OpenSpec.ofChange slackRisesWrong)

/-- 'consignlaw10.SlackKnown': WHATEVER THE INPUT: true; the input reads as it did. -/
def slackKnownSpec : ChangeSpec := { name := "slackKnown", fn := fun _ => fun
  | [] => { results := [.lit (.bool true)], args := [] }
  | _ => none }
def slackKnownRow : OpenClaim := { program := "ytfoflfeaegfnnaa", sum := "3b1dd22676c3df27fc77f05a039cb0e26e41a4aca14f11d94099634deef81918", func := "consign/consignlaw10.SlackKnown", spec := "slackKnown", unfollowed := true, recurses := true, apart := false }
def SlackKnownSaid : Prop := slackKnownRow.holds Try.pinned (OpenSpec.ofChange slackKnownSpec)

/-- ITS FALSE NEIGHBOUR: 'it returns false'. Refute it at one input. -/
def slackKnownWrong : ChangeSpec := { name := "slackKnown", fn := fun _ => fun
  | [] => { results := [.lit (.bool false)], args := [] }
  | _ => none }
def SlackKnownWrongFalsely : Prop := slackKnownRow.holds Try.pinned (OpenSpec.ofChange slackKnownWrong)

/- THE SECOND FORM. 'bulk': how many values and letters a reading holds, each counted each time it is reached (what is shared counts as often as it is met; a slice's spare places count too). A statement '..UptoSaid' is the law's where the arguments, and the package variables that the reading takes, are together of bulk at most 1048576: NARROWER than '..Said'. Prove '..Said' where nothing that the law and all that it calls make is longer than what came in: it says more and counts as full. Else prove '..UptoSaid'. A law counts once. -/
mutual
def uptoBulk {H : Type} : DataW H → Nat
  | .lit (.string bytes) => bytes.length + 1
  | .lit _ => 1
  | .nil => 1
  | .ptr d => uptoBulk d + 1
  | .slice elems spare => uptoBulkAll elems + uptoBulkAll spare + 1
  | .agg parts => uptoBulkAll parts + 1
  | .iface _ d => uptoBulk d + 1
  | .map entries => uptoBulkEntries entries + 1
  | .held _ => 1
def uptoBulkAll {H : Type} : List (DataW H) → Nat
  | [] => 0
  | d :: r => uptoBulk d + uptoBulkAll r
def uptoBulkEntries {H : Type} : List (Lit × DataW H) → Nat
  | [] => 0
  | x :: r => uptoBulkEntry x + uptoBulkEntries r
def uptoBulkEntry {H : Type} : Lit × DataW H → Nat
  | (.string bytes, d) => bytes.length + uptoBulk d + 1
  | (_, d) => uptoBulk d + 1
 end
def uptoSmall : (H : Type) → List (DataW H) → Bool := fun _ ds => decide (uptoBulkAll ds ≤ 1048576)
def OpenSpec.upto (s : _root_.Go.ChangeSpec) : _root_.Go.OpenSpec := { _root_.Go.OpenSpec.ofChange s with cond := some uptoSmall }

/-- 'consignlaw10.SlackTells', WHERE WHAT IT READS IS OF BULK AT MOST 1048576: true; the input reads as it did. -/
def slackTellsUptoRow : OpenClaim := { program := "ytfoflfeaegfnnaa", sum := "3b1dd22676c3df27fc77f05a039cb0e26e41a4aca14f11d94099634deef81918", func := "consign/consignlaw10.SlackTells", spec := "slackTells", unfollowed := true, recurses := true, apart := false, narrowed := true }
def SlackTellsUptoSaid : Prop := slackTellsUptoRow.holds Try.pinned (OpenSpec.upto slackTellsSpec)

/-- 'consignlaw10.SlackFloats', WHERE WHAT IT READS IS OF BULK AT MOST 1048576: true; the input reads as it did. -/
def slackFloatsUptoRow : OpenClaim := { program := "ytfoflfeaegfnnaa", sum := "3b1dd22676c3df27fc77f05a039cb0e26e41a4aca14f11d94099634deef81918", func := "consign/consignlaw10.SlackFloats", spec := "slackFloats", unfollowed := true, recurses := true, apart := false, narrowed := true }
def SlackFloatsUptoSaid : Prop := slackFloatsUptoRow.holds Try.pinned (OpenSpec.upto slackFloatsSpec)

/-- 'consignlaw10.SlackRises', WHERE WHAT IT READS IS OF BULK AT MOST 1048576: true; the input reads as it did. -/
def slackRisesUptoRow : OpenClaim := { program := "ytfoflfeaegfnnaa", sum := "3b1dd22676c3df27fc77f05a039cb0e26e41a4aca14f11d94099634deef81918", func := "consign/consignlaw10.SlackRises", spec := "slackRises", unfollowed := true, recurses := true, apart := false, narrowed := true }
def SlackRisesUptoSaid : Prop := slackRisesUptoRow.holds Try.pinned (OpenSpec.upto slackRisesSpec)

/-- 'consignlaw10.SlackKnown', WHERE WHAT IT READS IS OF BULK AT MOST 1048576: true; the input reads as it did. -/
def slackKnownUptoRow : OpenClaim := { program := "ytfoflfeaegfnnaa", sum := "3b1dd22676c3df27fc77f05a039cb0e26e41a4aca14f11d94099634deef81918", func := "consign/consignlaw10.SlackKnown", spec := "slackKnown", unfollowed := true, recurses := true, apart := false, narrowed := true }
def SlackKnownUptoSaid : Prop := slackKnownUptoRow.holds Try.pinned (OpenSpec.upto slackKnownSpec)

end Rows
end Go.Proofs.Ytfoflfeaegfnnaa

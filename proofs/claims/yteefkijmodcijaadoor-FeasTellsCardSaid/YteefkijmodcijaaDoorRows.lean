/-
  NARROWER THAN 'FOR EVERY INPUT', by the rows' own cells (each row's printed sentence says how): FeasTells: laid · FeasOdd: laid · FeasSome: laid · FeasAgrees: laid · FeasMore: laid · FeasLess: laid · FeasMoved: laid · FeasKnown: laid.
  DERIVED. THE GIVEN ROWS OF THIS SEAT. 8 by the template 'for every input the law returns true; each argument reads behind the call as it read before'; 0 by the template 'total and deterministic' (their statements: YteefkijmodcijaaDoorTotals.lean).
  GIVEN WITH THE SEED: the statements are not yours to turn. If you find one false, say at which input.
  Laid BY PROGRAM, IN A SANDBOX (cutbox-rows.mjs): the forced cells as the released guide's own fill.sh prints them over the translation 29f5d340f4a44166… (all of the seat's roots in one cut). By AI agents, Wed Nov 11 2026. No macro, syntax, notation, axiom, sorry.
-/
import Derived.Test.YteefkijmodcijaaDoorChecked
import GoSem.Claim
import GoSem.ClaimJoined
import GoSem.ClaimMapViews
import Derived.JoinedTies
import Derived.KernelRfl
namespace Go.Proofs.YteefkijmodcijaaDoor
/- THE CELL 'sum', in the pinned program and in every row, IS THE sha256 OF THE DUMP (.gsa) THAT YteefkijmodcijaaDoorProg.lean LOADS. Nothing in Lean hashes anything: it is a label: what it is worth is what the hold of that sum in a sandbox is worth. -/
noncomputable def Tryd.pinned : Pinned := { name := "yteefkijmodcijaadoor", sum := "29f5d340f4a441664bc53623d8de03cd3720ae2e8b5138c7400c505ba36da63a", checked := Tryd.checked }
namespace Rows
def none {H : Type} : Left H := { results := [], args := [] }

/- WHAT THE LISTED PACKAGE-LEVEL VARIABLES READ AS WHEN THE CALL BEGINS. Each datum BY PROGRAM (the guide's laid-datum.mjs) off the statement by which the dump's own 'gosem.cut.vars' lays the variable. In a bare row this is a premise. The card (YteefkijmodcijaaDoorCards.lean) ties it to the program's text. -/
def laid_errors_errorType {H : Type} : DataW H := .iface "internal/reflectlite.rtype" (.agg [.ptr (.lit (.string [101, 114, 114, 111, 114]))])
def laid_consign_load_signs {H : Type} : DataW H := .agg [.lit (.int .i64 1), .lit (.int .i64 (-1))]

/-- 'consignlaw09.FeasTells': WHATEVER THE INPUT: true; the input reads as it did. -/
def feasTellsSpec : ChangeSpec := { name := "feasTells", fn := fun _ => fun
  | [d1, d2, d3, d4, d5] => { results := [.lit (.bool true)], args := [d1, d2, d3, d4, d5] }
  | _ => none }
def feasTellsRow : OpenClaim := { program := "yteefkijmodcijaadoor", sum := "29f5d340f4a441664bc53623d8de03cd3720ae2e8b5138c7400c505ba36da63a", func := "consign/consignlaw09.FeasTells", spec := "feasTells", inPlace := ["internal/reflectlite.ValueOf", "(internal/reflectlite.Value).Type", "(internal/reflectlite.Value).IsNil", "internal/reflectlite.TypeOf", "(internal/reflectlite.Value).Elem", "(internal/reflectlite.Value).Set"], unfollowed := true, recurses := true, named := ["errors.errorType"], apart := false, laid := [("errors.errorType", laid_errors_errorType)] }
def FeasTellsSaid : Prop := feasTellsRow.holds Tryd.pinned (OpenSpec.ofChange feasTellsSpec)

/-- ITS FALSE NEIGHBOUR: 'it returns false'. Refute it at one input. -/
def feasTellsWrong : ChangeSpec := { name := "feasTells", fn := fun _ => fun
  | [d1, d2, d3, d4, d5] => { results := [.lit (.bool false)], args := [d1, d2, d3, d4, d5] }
  | _ => none }
def FeasTellsWrongFalsely : Prop := feasTellsRow.holds Tryd.pinned (OpenSpec.ofChange feasTellsWrong)

/-- 'consignlaw09.FeasOdd': WHATEVER THE INPUT: true; the input reads as it did. -/
def feasOddSpec : ChangeSpec := { name := "feasOdd", fn := fun _ => fun
  | [d1, d2, d3, d4] => { results := [.lit (.bool true)], args := [d1, d2, d3, d4] }
  | _ => none }
def feasOddRow : OpenClaim := { program := "yteefkijmodcijaadoor", sum := "29f5d340f4a441664bc53623d8de03cd3720ae2e8b5138c7400c505ba36da63a", func := "consign/consignlaw09.FeasOdd", spec := "feasOdd", inPlace := ["internal/reflectlite.ValueOf", "(internal/reflectlite.Value).Type", "(internal/reflectlite.Value).IsNil", "internal/reflectlite.TypeOf", "(internal/reflectlite.Value).Elem", "(internal/reflectlite.Value).Set"], unfollowed := true, recurses := true, named := ["errors.errorType"], apart := false, laid := [("errors.errorType", laid_errors_errorType)] }
def FeasOddSaid : Prop := feasOddRow.holds Tryd.pinned (OpenSpec.ofChange feasOddSpec)

/-- ITS FALSE NEIGHBOUR: 'it returns false'. Refute it at one input. -/
def feasOddWrong : ChangeSpec := { name := "feasOdd", fn := fun _ => fun
  | [d1, d2, d3, d4] => { results := [.lit (.bool false)], args := [d1, d2, d3, d4] }
  | _ => none }
def FeasOddWrongFalsely : Prop := feasOddRow.holds Tryd.pinned (OpenSpec.ofChange feasOddWrong)

/-- 'consignlaw09.FeasSome': WHATEVER THE INPUT: true; the input reads as it did. -/
def feasSomeSpec : ChangeSpec := { name := "feasSome", fn := fun _ => fun
  | [d1, d2] => { results := [.lit (.bool true)], args := [d1, d2] }
  | _ => none }
def feasSomeRow : OpenClaim := { program := "yteefkijmodcijaadoor", sum := "29f5d340f4a441664bc53623d8de03cd3720ae2e8b5138c7400c505ba36da63a", func := "consign/consignlaw09.FeasSome", spec := "feasSome", inPlace := ["internal/reflectlite.ValueOf", "(internal/reflectlite.Value).Type", "(internal/reflectlite.Value).IsNil", "internal/reflectlite.TypeOf", "(internal/reflectlite.Value).Elem", "(internal/reflectlite.Value).Set"], unfollowed := true, recurses := true, named := ["errors.errorType"], apart := false, laid := [("errors.errorType", laid_errors_errorType)] }
def FeasSomeSaid : Prop := feasSomeRow.holds Tryd.pinned (OpenSpec.ofChange feasSomeSpec)

/-- ITS FALSE NEIGHBOUR: 'it returns false'. Refute it at one input. -/
def feasSomeWrong : ChangeSpec := { name := "feasSome", fn := fun _ => fun
  | [d1, d2] => { results := [.lit (.bool false)], args := [d1, d2] }
  | _ => none }
def FeasSomeWrongFalsely : Prop := feasSomeRow.holds Tryd.pinned (OpenSpec.ofChange feasSomeWrong)

/-- 'consignlaw09.FeasAgrees': WHATEVER THE INPUT: true; the input reads as it did. -/
def feasAgreesSpec : ChangeSpec := { name := "feasAgrees", fn := fun _ => fun
  | [d1, d2] => { results := [.lit (.bool true)], args := [d1, d2] }
  | _ => none }
def feasAgreesRow : OpenClaim := { program := "yteefkijmodcijaadoor", sum := "29f5d340f4a441664bc53623d8de03cd3720ae2e8b5138c7400c505ba36da63a", func := "consign/consignlaw09.FeasAgrees", spec := "feasAgrees", inPlace := ["internal/reflectlite.ValueOf", "(internal/reflectlite.Value).Type", "(internal/reflectlite.Value).IsNil", "internal/reflectlite.TypeOf", "(internal/reflectlite.Value).Elem", "(internal/reflectlite.Value).Set"], unfollowed := true, recurses := true, named := ["errors.errorType", "consign/load.signs"], apart := false, laid := [("errors.errorType", laid_errors_errorType), ("consign/load.signs", laid_consign_load_signs)] }
def FeasAgreesSaid : Prop := feasAgreesRow.holds Tryd.pinned (OpenSpec.ofChange feasAgreesSpec)

/-- ITS FALSE NEIGHBOUR: 'it returns false'. Refute it at one input. -/
def feasAgreesWrong : ChangeSpec := { name := "feasAgrees", fn := fun _ => fun
  | [d1, d2] => { results := [.lit (.bool false)], args := [d1, d2] }
  | _ => none }
def FeasAgreesWrongFalsely : Prop := feasAgreesRow.holds Tryd.pinned (OpenSpec.ofChange feasAgreesWrong)

/-- 'consignlaw09.FeasMore': WHATEVER THE INPUT: true; the input reads as it did. -/
def feasMoreSpec : ChangeSpec := { name := "feasMore", fn := fun _ => fun
  | [d1, d2, d3] => { results := [.lit (.bool true)], args := [d1, d2, d3] }
  | _ => none }
def feasMoreRow : OpenClaim := { program := "yteefkijmodcijaadoor", sum := "29f5d340f4a441664bc53623d8de03cd3720ae2e8b5138c7400c505ba36da63a", func := "consign/consignlaw09.FeasMore", spec := "feasMore", inPlace := ["internal/reflectlite.ValueOf", "(internal/reflectlite.Value).Type", "(internal/reflectlite.Value).IsNil", "internal/reflectlite.TypeOf", "(internal/reflectlite.Value).Elem", "(internal/reflectlite.Value).Set"], unfollowed := true, recurses := true, named := ["errors.errorType"], apart := false, laid := [("errors.errorType", laid_errors_errorType)] }
def FeasMoreSaid : Prop := feasMoreRow.holds Tryd.pinned (OpenSpec.ofChange feasMoreSpec)

/-- ITS FALSE NEIGHBOUR: 'it returns false'. Refute it at one input. -/
def feasMoreWrong : ChangeSpec := { name := "feasMore", fn := fun _ => fun
  | [d1, d2, d3] => { results := [.lit (.bool false)], args := [d1, d2, d3] }
  | _ => none }
def FeasMoreWrongFalsely : Prop := feasMoreRow.holds Tryd.pinned (OpenSpec.ofChange feasMoreWrong)

/-- 'consignlaw09.FeasLess': WHATEVER THE INPUT: true; the input reads as it did. -/
def feasLessSpec : ChangeSpec := { name := "feasLess", fn := fun _ => fun
  | [d1, d2, d3] => { results := [.lit (.bool true)], args := [d1, d2, d3] }
  | _ => none }
def feasLessRow : OpenClaim := { program := "yteefkijmodcijaadoor", sum := "29f5d340f4a441664bc53623d8de03cd3720ae2e8b5138c7400c505ba36da63a", func := "consign/consignlaw09.FeasLess", spec := "feasLess", inPlace := ["internal/reflectlite.ValueOf", "(internal/reflectlite.Value).Type", "(internal/reflectlite.Value).IsNil", "internal/reflectlite.TypeOf", "(internal/reflectlite.Value).Elem", "(internal/reflectlite.Value).Set"], unfollowed := true, recurses := true, named := ["errors.errorType"], apart := false, laid := [("errors.errorType", laid_errors_errorType)] }
def FeasLessSaid : Prop := feasLessRow.holds Tryd.pinned (OpenSpec.ofChange feasLessSpec)

/-- ITS FALSE NEIGHBOUR: 'it returns false'. Refute it at one input. -/
def feasLessWrong : ChangeSpec := { name := "feasLess", fn := fun _ => fun
  | [d1, d2, d3] => { results := [.lit (.bool false)], args := [d1, d2, d3] }
  | _ => none }
def FeasLessWrongFalsely : Prop := feasLessRow.holds Tryd.pinned (OpenSpec.ofChange feasLessWrong)

/-- 'consignlaw09.FeasMoved': WHATEVER THE INPUT: true; the input reads as it did. -/
def feasMovedSpec : ChangeSpec := { name := "feasMoved", fn := fun _ => fun
  | [d1, d2, d3] => { results := [.lit (.bool true)], args := [d1, d2, d3] }
  | _ => none }
def feasMovedRow : OpenClaim := { program := "yteefkijmodcijaadoor", sum := "29f5d340f4a441664bc53623d8de03cd3720ae2e8b5138c7400c505ba36da63a", func := "consign/consignlaw09.FeasMoved", spec := "feasMoved", inPlace := ["internal/reflectlite.ValueOf", "(internal/reflectlite.Value).Type", "(internal/reflectlite.Value).IsNil", "internal/reflectlite.TypeOf", "(internal/reflectlite.Value).Elem", "(internal/reflectlite.Value).Set"], unfollowed := true, recurses := true, named := ["errors.errorType"], apart := false, laid := [("errors.errorType", laid_errors_errorType)] }
def FeasMovedSaid : Prop := feasMovedRow.holds Tryd.pinned (OpenSpec.ofChange feasMovedSpec)

/-- ITS FALSE NEIGHBOUR: 'it returns false'. Refute it at one input. -/
def feasMovedWrong : ChangeSpec := { name := "feasMoved", fn := fun _ => fun
  | [d1, d2, d3] => { results := [.lit (.bool false)], args := [d1, d2, d3] }
  | _ => none }
def FeasMovedWrongFalsely : Prop := feasMovedRow.holds Tryd.pinned (OpenSpec.ofChange feasMovedWrong)

/-- 'consignlaw09.FeasKnown': WHATEVER THE INPUT: true; the input reads as it did. -/
def feasKnownSpec : ChangeSpec := { name := "feasKnown", fn := fun _ => fun
  | [] => { results := [.lit (.bool true)], args := [] }
  | _ => none }
def feasKnownRow : OpenClaim := { program := "yteefkijmodcijaadoor", sum := "29f5d340f4a441664bc53623d8de03cd3720ae2e8b5138c7400c505ba36da63a", func := "consign/consignlaw09.FeasKnown", spec := "feasKnown", inPlace := ["internal/reflectlite.ValueOf", "(internal/reflectlite.Value).Type", "(internal/reflectlite.Value).IsNil", "internal/reflectlite.TypeOf", "(internal/reflectlite.Value).Elem", "(internal/reflectlite.Value).Set"], unfollowed := true, recurses := true, named := ["errors.errorType"], apart := false, laid := [("errors.errorType", laid_errors_errorType)] }
def FeasKnownSaid : Prop := feasKnownRow.holds Tryd.pinned (OpenSpec.ofChange feasKnownSpec)

/-- ITS FALSE NEIGHBOUR: 'it returns false'. Refute it at one input. -/
def feasKnownWrong : ChangeSpec := { name := "feasKnown", fn := fun _ => fun
  | [] => { results := [.lit (.bool false)], args := [] }
  | _ => none }
def FeasKnownWrongFalsely : Prop := feasKnownRow.holds Tryd.pinned (OpenSpec.ofChange feasKnownWrong)

/- THE SECOND FORM. 'bulk': how many values and letters a reading holds, each counted each time it is reached (what is shared counts as often as it is met; a slice's spare places count too). A statement '..UptoSaid' is the law's where the arguments, and the package variables that the reading takes, are together of bulk at most 1048576: NARROWER than '..Said'. Prove '..Said' where nothing that the law and all that it calls make is longer than what came in: it says more and counts as full. Else prove '..UptoSaid'. A law counts once. -/
mutual
def uptoBulk {H : Type} : DataW H → Nat
  | .lit (.string bytes) => bytes.length + 1
  | .lit _ => 1
  | .nil => 1
  | .ptr d => uptoBulk d + 1
  | .slice elems spare => uptoBulkAll elems + uptoBulkAll spare + 1
  | .agg parts => uptoBulkAll parts + 1
  | .iface _ d => uptoBulk d + 1
  | .map entries => uptoBulkEntries entries + 1
  | .held _ => 1
def uptoBulkAll {H : Type} : List (DataW H) → Nat
  | [] => 0
  | d :: r => uptoBulk d + uptoBulkAll r
def uptoBulkEntries {H : Type} : List (Lit × DataW H) → Nat
  | [] => 0
  | x :: r => uptoBulkEntry x + uptoBulkEntries r
def uptoBulkEntry {H : Type} : Lit × DataW H → Nat
  | (.string bytes, d) => bytes.length + uptoBulk d + 1
  | (_, d) => uptoBulk d + 1
 end
def uptoSmall : (H : Type) → List (DataW H) → Bool := fun _ ds => decide (uptoBulkAll ds ≤ 1048576)
def OpenSpec.upto (s : _root_.Go.ChangeSpec) : _root_.Go.OpenSpec := { _root_.Go.OpenSpec.ofChange s with cond := some uptoSmall }

/-- 'consignlaw09.FeasTells', WHERE WHAT IT READS IS OF BULK AT MOST 1048576: true; the input reads as it did. -/
def feasTellsUptoRow : OpenClaim := { program := "yteefkijmodcijaadoor", sum := "29f5d340f4a441664bc53623d8de03cd3720ae2e8b5138c7400c505ba36da63a", func := "consign/consignlaw09.FeasTells", spec := "feasTells", inPlace := ["internal/reflectlite.ValueOf", "(internal/reflectlite.Value).Type", "(internal/reflectlite.Value).IsNil", "internal/reflectlite.TypeOf", "(internal/reflectlite.Value).Elem", "(internal/reflectlite.Value).Set"], unfollowed := true, recurses := true, named := ["errors.errorType"], apart := false, laid := [("errors.errorType", laid_errors_errorType)], narrowed := true }
def FeasTellsUptoSaid : Prop := feasTellsUptoRow.holds Tryd.pinned (OpenSpec.upto feasTellsSpec)

/-- 'consignlaw09.FeasOdd', WHERE WHAT IT READS IS OF BULK AT MOST 1048576: true; the input reads as it did. -/
def feasOddUptoRow : OpenClaim := { program := "yteefkijmodcijaadoor", sum := "29f5d340f4a441664bc53623d8de03cd3720ae2e8b5138c7400c505ba36da63a", func := "consign/consignlaw09.FeasOdd", spec := "feasOdd", inPlace := ["internal/reflectlite.ValueOf", "(internal/reflectlite.Value).Type", "(internal/reflectlite.Value).IsNil", "internal/reflectlite.TypeOf", "(internal/reflectlite.Value).Elem", "(internal/reflectlite.Value).Set"], unfollowed := true, recurses := true, named := ["errors.errorType"], apart := false, laid := [("errors.errorType", laid_errors_errorType)], narrowed := true }
def FeasOddUptoSaid : Prop := feasOddUptoRow.holds Tryd.pinned (OpenSpec.upto feasOddSpec)

/-- 'consignlaw09.FeasSome', WHERE WHAT IT READS IS OF BULK AT MOST 1048576: true; the input reads as it did. -/
def feasSomeUptoRow : OpenClaim := { program := "yteefkijmodcijaadoor", sum := "29f5d340f4a441664bc53623d8de03cd3720ae2e8b5138c7400c505ba36da63a", func := "consign/consignlaw09.FeasSome", spec := "feasSome", inPlace := ["internal/reflectlite.ValueOf", "(internal/reflectlite.Value).Type", "(internal/reflectlite.Value).IsNil", "internal/reflectlite.TypeOf", "(internal/reflectlite.Value).Elem", "(internal/reflectlite.Value).Set"], unfollowed := true, recurses := true, named := ["errors.errorType"], apart := false, laid := [("errors.errorType", laid_errors_errorType)], narrowed := true }
def FeasSomeUptoSaid : Prop := feasSomeUptoRow.holds Tryd.pinned (OpenSpec.upto feasSomeSpec)

/-- 'consignlaw09.FeasAgrees', WHERE WHAT IT READS IS OF BULK AT MOST 1048576: true; the input reads as it did. -/
def feasAgreesUptoRow : OpenClaim := { program := "yteefkijmodcijaadoor", sum := "29f5d340f4a441664bc53623d8de03cd3720ae2e8b5138c7400c505ba36da63a", func := "consign/consignlaw09.FeasAgrees", spec := "feasAgrees", inPlace := ["internal/reflectlite.ValueOf", "(internal/reflectlite.Value).Type", "(internal/reflectlite.Value).IsNil", "internal/reflectlite.TypeOf", "(internal/reflectlite.Value).Elem", "(internal/reflectlite.Value).Set"], unfollowed := true, recurses := true, named := ["errors.errorType", "consign/load.signs"], apart := false, laid := [("errors.errorType", laid_errors_errorType), ("consign/load.signs", laid_consign_load_signs)], narrowed := true }
def FeasAgreesUptoSaid : Prop := feasAgreesUptoRow.holds Tryd.pinned (OpenSpec.upto feasAgreesSpec)

/-- 'consignlaw09.FeasMore', WHERE WHAT IT READS IS OF BULK AT MOST 1048576: true; the input reads as it did. -/
def feasMoreUptoRow : OpenClaim := { program := "yteefkijmodcijaadoor", sum := "29f5d340f4a441664bc53623d8de03cd3720ae2e8b5138c7400c505ba36da63a", func := "consign/consignlaw09.FeasMore", spec := "feasMore", inPlace := ["internal/reflectlite.ValueOf", "(internal/reflectlite.Value).Type", "(internal/reflectlite.Value).IsNil", "internal/reflectlite.TypeOf", "(internal/reflectlite.Value).Elem", "(internal/reflectlite.Value).Set"], unfollowed := true, recurses := true, named := ["errors.errorType"], apart := false, laid := [("errors.errorType", laid_errors_errorType)], narrowed := true }
def FeasMoreUptoSaid : Prop := feasMoreUptoRow.holds Tryd.pinned (OpenSpec.upto feasMoreSpec)

/-- 'consignlaw09.FeasLess', WHERE WHAT IT READS IS OF BULK AT MOST 1048576: true; the input reads as it did. -/
def feasLessUptoRow : OpenClaim := { program := "yteefkijmodcijaadoor", sum := "29f5d340f4a441664bc53623d8de03cd3720ae2e8b5138c7400c505ba36da63a", func := "consign/consignlaw09.FeasLess", spec := "feasLess", inPlace := ["internal/reflectlite.ValueOf", "(internal/reflectlite.Value).Type", "(internal/reflectlite.Value).IsNil", "internal/reflectlite.TypeOf", "(internal/reflectlite.Value).Elem", "(internal/reflectlite.Value).Set"], unfollowed := true, recurses := true, named := ["errors.errorType"], apart := false, laid := [("errors.errorType", laid_errors_errorType)], narrowed := true }
def FeasLessUptoSaid : Prop := feasLessUptoRow.holds Tryd.pinned (OpenSpec.upto feasLessSpec)

/-- 'consignlaw09.FeasMoved', WHERE WHAT IT READS IS OF BULK AT MOST 1048576: true; the input reads as it did. -/
def feasMovedUptoRow : OpenClaim := { program := "yteefkijmodcijaadoor", sum := "29f5d340f4a441664bc53623d8de03cd3720ae2e8b5138c7400c505ba36da63a", func := "consign/consignlaw09.FeasMoved", spec := "feasMoved", inPlace := ["internal/reflectlite.ValueOf", "(internal/reflectlite.Value).Type", "(internal/reflectlite.Value).IsNil", "internal/reflectlite.TypeOf", "(internal/reflectlite.Value).Elem", "(internal/reflectlite.Value).Set"], unfollowed := true, recurses := true, named := ["errors.errorType"], apart := false, laid := [("errors.errorType", laid_errors_errorType)], narrowed := true }
def FeasMovedUptoSaid : Prop := feasMovedUptoRow.holds Tryd.pinned (OpenSpec.upto feasMovedSpec)

/-- 'consignlaw09.FeasKnown', WHERE WHAT IT READS IS OF BULK AT MOST 1048576: true; the input reads as it did. -/
def feasKnownUptoRow : OpenClaim := { program := "yteefkijmodcijaadoor", sum := "29f5d340f4a441664bc53623d8de03cd3720ae2e8b5138c7400c505ba36da63a", func := "consign/consignlaw09.FeasKnown", spec := "feasKnown", inPlace := ["internal/reflectlite.ValueOf", "(internal/reflectlite.Value).Type", "(internal/reflectlite.Value).IsNil", "internal/reflectlite.TypeOf", "(internal/reflectlite.Value).Elem", "(internal/reflectlite.Value).Set"], unfollowed := true, recurses := true, named := ["errors.errorType"], apart := false, laid := [("errors.errorType", laid_errors_errorType)], narrowed := true }
def FeasKnownUptoSaid : Prop := feasKnownUptoRow.holds Tryd.pinned (OpenSpec.upto feasKnownSpec)

end Rows
end Go.Proofs.YteefkijmodcijaaDoor

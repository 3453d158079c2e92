/-
  NARROWER THAN 'FOR EVERY INPUT', by the rows' own cells (each row's printed sentence says how): InsertTells: laid · InsertOdd: laid · InsertPlaces: laid · InsertRight: laid · InsertOpen: laid · InsertSums: laid · InsertKnown: laid.
  DERIVED. THE GIVEN ROWS OF THIS SEAT. 7 by the template 'for every input the law returns true; each argument reads behind the call as it read before'; 0 by the template 'total and deterministic' (their statements: YthjdacbgcpldjaaDoorTotals.lean).
  GIVEN WITH THE SEED: the statements are not yours to turn. If you find one false, say at which input.
  Laid BY PROGRAM, IN A SANDBOX (cutbox-rows.mjs): the forced cells as the released guide's own fill.sh prints them over the translation ff2834632776eac1… (all of the seat's roots in one cut). By AI agents, Wed Nov 11 2026. No macro, syntax, notation, axiom, sorry.
-/
import Derived.Test.YthjdacbgcpldjaaDoorChecked
import GoSem.Claim
import GoSem.ClaimJoined
import GoSem.ClaimMapViews
import Derived.JoinedTies
import Derived.KernelRfl
namespace Go.Proofs.YthjdacbgcpldjaaDoor
/- THE CELL 'sum', in the pinned program and in every row, IS THE sha256 OF THE DUMP (.gsa) THAT YthjdacbgcpldjaaDoorProg.lean LOADS. Nothing in Lean hashes anything: it is a label: what it is worth is what the hold of that sum in a sandbox is worth. -/
noncomputable def Tryd.pinned : Pinned := { name := "ythjdacbgcpldjaadoor", sum := "ff2834632776eac1924f899c15ea7a09d2c0f999052e440966475b7884293ea2", checked := Tryd.checked }
namespace Rows
def none {H : Type} : Left H := { results := [], args := [] }

/- WHAT THE LISTED PACKAGE-LEVEL VARIABLES READ AS WHEN THE CALL BEGINS. Each datum BY PROGRAM (the guide's laid-datum.mjs) off the statement by which the dump's own 'gosem.cut.vars' lays the variable. In a bare row this is a premise. The card (YthjdacbgcpldjaaDoorCards.lean) ties it to the program's text. -/
def laid_consign_load_signs {H : Type} : DataW H := .agg [.lit (.int .i64 1), .lit (.int .i64 (-1))]

/-- 'consignlaw11.InsertTells': WHATEVER THE INPUT: true; the input reads as it did. -/
def insertTellsSpec : ChangeSpec := { name := "insertTells", fn := fun _ => fun
  | [d1, d2, d3] => { results := [.lit (.bool true)], args := [d1, d2, d3] }
  | _ => none }
def insertTellsRow : OpenClaim := { program := "ythjdacbgcpldjaadoor", sum := "ff2834632776eac1924f899c15ea7a09d2c0f999052e440966475b7884293ea2", func := "consign/consignlaw11.InsertTells", spec := "insertTells", unfollowed := true, recurses := true, named := ["consign/load.signs"], apart := false, laid := [("consign/load.signs", laid_consign_load_signs)] }
def InsertTellsSaid : Prop := insertTellsRow.holds Tryd.pinned (OpenSpec.ofChange insertTellsSpec)

/-- ITS FALSE NEIGHBOUR: 'it returns false'. Refute it at one input. -/
def insertTellsWrong : ChangeSpec := { name := "insertTells", fn := fun _ => fun
  | [d1, d2, d3] => { results := [.lit (.bool false)], args := [d1, d2, d3] }
  | _ => none }
def InsertTellsWrongFalsely : Prop := insertTellsRow.holds Tryd.pinned (OpenSpec.ofChange insertTellsWrong)

/-- 'consignlaw11.InsertOdd': WHATEVER THE INPUT: true; the input reads as it did. -/
def insertOddSpec : ChangeSpec := { name := "insertOdd", fn := fun _ => fun
  | [d1, d2, d3, d4] => { results := [.lit (.bool true)], args := [d1, d2, d3, d4] }
  | _ => none }
def insertOddRow : OpenClaim := { program := "ythjdacbgcpldjaadoor", sum := "ff2834632776eac1924f899c15ea7a09d2c0f999052e440966475b7884293ea2", func := "consign/consignlaw11.InsertOdd", spec := "insertOdd", unfollowed := true, recurses := true, named := ["consign/load.signs"], apart := false, laid := [("consign/load.signs", laid_consign_load_signs)] }
def InsertOddSaid : Prop := insertOddRow.holds Tryd.pinned (OpenSpec.ofChange insertOddSpec)

/-- ITS FALSE NEIGHBOUR: 'it returns false'. Refute it at one input. -/
def insertOddWrong : ChangeSpec := { name := "insertOdd", fn := fun _ => fun
  | [d1, d2, d3, d4] => { results := [.lit (.bool false)], args := [d1, d2, d3, d4] }
  | _ => none }
def InsertOddWrongFalsely : Prop := insertOddRow.holds Tryd.pinned (OpenSpec.ofChange insertOddWrong)

/-- 'consignlaw11.InsertPlaces': WHATEVER THE INPUT: true; the input reads as it did. -/
def insertPlacesSpec : ChangeSpec := { name := "insertPlaces", fn := fun _ => fun
  | [d1, d2] => { results := [.lit (.bool true)], args := [d1, d2] }
  | _ => none }
def insertPlacesRow : OpenClaim := { program := "ythjdacbgcpldjaadoor", sum := "ff2834632776eac1924f899c15ea7a09d2c0f999052e440966475b7884293ea2", func := "consign/consignlaw11.InsertPlaces", spec := "insertPlaces", unfollowed := true, recurses := true, named := ["consign/load.signs"], apart := false, laid := [("consign/load.signs", laid_consign_load_signs)] }
def InsertPlacesSaid : Prop := insertPlacesRow.holds Tryd.pinned (OpenSpec.ofChange insertPlacesSpec)

/-- ITS FALSE NEIGHBOUR: 'it returns false'. Refute it at one input. -/
def insertPlacesWrong : ChangeSpec := { name := "insertPlaces", fn := fun _ => fun
  | [d1, d2] => { results := [.lit (.bool false)], args := [d1, d2] }
  | _ => none }
def InsertPlacesWrongFalsely : Prop := insertPlacesRow.holds Tryd.pinned (OpenSpec.ofChange insertPlacesWrong)

/-- 'consignlaw11.InsertRight': WHATEVER THE INPUT: true; the input reads as it did. -/
def insertRightSpec : ChangeSpec := { name := "insertRight", fn := fun _ => fun
  | [d1, d2, d3] => { results := [.lit (.bool true)], args := [d1, d2, d3] }
  | _ => none }
def insertRightRow : OpenClaim := { program := "ythjdacbgcpldjaadoor", sum := "ff2834632776eac1924f899c15ea7a09d2c0f999052e440966475b7884293ea2", func := "consign/consignlaw11.InsertRight", spec := "insertRight", unfollowed := true, recurses := true, named := ["consign/load.signs"], apart := false, laid := [("consign/load.signs", laid_consign_load_signs)] }
def InsertRightSaid : Prop := insertRightRow.holds Tryd.pinned (OpenSpec.ofChange insertRightSpec)

/-- ITS FALSE NEIGHBOUR: 'it returns false'. Refute it at one input. -/
def insertRightWrong : ChangeSpec := { name := "insertRight", fn := fun _ => fun
  | [d1, d2, d3] => { results := [.lit (.bool false)], args := [d1, d2, d3] }
  | _ => none }
def InsertRightWrongFalsely : Prop := insertRightRow.holds Tryd.pinned (OpenSpec.ofChange insertRightWrong)

/-- 'consignlaw11.InsertOpen': WHATEVER THE INPUT: true; the input reads as it did. -/
def insertOpenSpec : ChangeSpec := { name := "insertOpen", fn := fun _ => fun
  | [d1, d2] => { results := [.lit (.bool true)], args := [d1, d2] }
  | _ => none }
def insertOpenRow : OpenClaim := { program := "ythjdacbgcpldjaadoor", sum := "ff2834632776eac1924f899c15ea7a09d2c0f999052e440966475b7884293ea2", func := "consign/consignlaw11.InsertOpen", spec := "insertOpen", unfollowed := true, recurses := true, named := ["consign/load.signs"], apart := false, laid := [("consign/load.signs", laid_consign_load_signs)] }
def InsertOpenSaid : Prop := insertOpenRow.holds Tryd.pinned (OpenSpec.ofChange insertOpenSpec)

/-- ITS FALSE NEIGHBOUR: 'it returns false'. Refute it at one input. -/
def insertOpenWrong : ChangeSpec := { name := "insertOpen", fn := fun _ => fun
  | [d1, d2] => { results := [.lit (.bool false)], args := [d1, d2] }
  | _ => none }
def InsertOpenWrongFalsely : Prop := insertOpenRow.holds Tryd.pinned (OpenSpec.ofChange insertOpenWrong)

/-- 'consignlaw11.InsertSums': WHATEVER THE INPUT: true; the input reads as it did. -/
def insertSumsSpec : ChangeSpec := { name := "insertSums", fn := fun _ => fun
  | [d1, d2] => { results := [.lit (.bool true)], args := [d1, d2] }
  | _ => none }
def insertSumsRow : OpenClaim := { program := "ythjdacbgcpldjaadoor", sum := "ff2834632776eac1924f899c15ea7a09d2c0f999052e440966475b7884293ea2", func := "consign/consignlaw11.InsertSums", spec := "insertSums", unfollowed := true, recurses := true, named := ["consign/load.signs"], apart := false, laid := [("consign/load.signs", laid_consign_load_signs)] }
def InsertSumsSaid : Prop := insertSumsRow.holds Tryd.pinned (OpenSpec.ofChange insertSumsSpec)

/-- ITS FALSE NEIGHBOUR: 'it returns false'. Refute it at one input. -/
def insertSumsWrong : ChangeSpec := { name := "insertSums", fn := fun _ => fun
  | [d1, d2] => { results := [.lit (.bool false)], args := [d1, d2] }
  | _ => none }
def InsertSumsWrongFalsely : Prop := insertSumsRow.holds Tryd.pinned (OpenSpec.ofChange insertSumsWrong)

/-- 'consignlaw11.InsertKnown': WHATEVER THE INPUT: true; the input reads as it did. -/
def insertKnownSpec : ChangeSpec := { name := "insertKnown", fn := fun _ => fun
  | [] => { results := [.lit (.bool true)], args := [] }
  | _ => none }
def insertKnownRow : OpenClaim := { program := "ythjdacbgcpldjaadoor", sum := "ff2834632776eac1924f899c15ea7a09d2c0f999052e440966475b7884293ea2", func := "consign/consignlaw11.InsertKnown", spec := "insertKnown", unfollowed := true, recurses := true, named := ["consign/load.signs"], apart := false, laid := [("consign/load.signs", laid_consign_load_signs)] }
def InsertKnownSaid : Prop := insertKnownRow.holds Tryd.pinned (OpenSpec.ofChange insertKnownSpec)

/-- ITS FALSE NEIGHBOUR: 'it returns false'. Refute it at one input. -/
def insertKnownWrong : ChangeSpec := { name := "insertKnown", fn := fun _ => fun
  | [] => { results := [.lit (.bool false)], args := [] }
  | _ => none }
def InsertKnownWrongFalsely : Prop := insertKnownRow.holds Tryd.pinned (OpenSpec.ofChange insertKnownWrong)

/- THE SECOND FORM. 'bulk': how many values and letters a reading holds, each counted each time it is reached (what is shared counts as often as it is met; a slice's spare places count too). A statement '..UptoSaid' is the law's where the arguments, and the package variables that the reading takes, are together of bulk at most 1048576: NARROWER than '..Said'. Prove '..Said' where nothing that the law and all that it calls make is longer than what came in: it says more and counts as full. Else prove '..UptoSaid'. A law counts once. -/
mutual
def uptoBulk {H : Type} : DataW H → Nat
  | .lit (.string bytes) => bytes.length + 1
  | .lit _ => 1
  | .nil => 1
  | .ptr d => uptoBulk d + 1
  | .slice elems spare => uptoBulkAll elems + uptoBulkAll spare + 1
  | .agg parts => uptoBulkAll parts + 1
  | .iface _ d => uptoBulk d + 1
  | .map entries => uptoBulkEntries entries + 1
  | .held _ => 1
def uptoBulkAll {H : Type} : List (DataW H) → Nat
  | [] => 0
  | d :: r => uptoBulk d + uptoBulkAll r
def uptoBulkEntries {H : Type} : List (Lit × DataW H) → Nat
  | [] => 0
  | x :: r => uptoBulkEntry x + uptoBulkEntries r
def uptoBulkEntry {H : Type} : Lit × DataW H → Nat
  | (.string bytes, d) => bytes.length + uptoBulk d + 1
  | (_, d) => uptoBulk d + 1
 end
def uptoSmall : (H : Type) → List (DataW H) → Bool := fun _ ds => decide (uptoBulkAll ds ≤ 1048576)
def OpenSpec.upto (s : _root_.Go.ChangeSpec) : _root_.Go.OpenSpec := { _root_.Go.OpenSpec.ofChange s with cond := some uptoSmall }

/-- 'consignlaw11.InsertTells', WHERE WHAT IT READS IS OF BULK AT MOST 1048576: true; the input reads as it did. -/
def insertTellsUptoRow : OpenClaim := { program := "ythjdacbgcpldjaadoor", sum := "ff2834632776eac1924f899c15ea7a09d2c0f999052e440966475b7884293ea2", func := "consign/consignlaw11.InsertTells", spec := "insertTells", unfollowed := true, recurses := true, named := ["consign/load.signs"], apart := false, laid := [("consign/load.signs", laid_consign_load_signs)], narrowed := true }
def InsertTellsUptoSaid : Prop := insertTellsUptoRow.holds Tryd.pinned (OpenSpec.upto insertTellsSpec)

/-- 'consignlaw11.InsertOdd', WHERE WHAT IT READS IS OF BULK AT MOST 1048576: true; the input reads as it did. -/
def insertOddUptoRow : OpenClaim := { program := "ythjdacbgcpldjaadoor", sum := "ff2834632776eac1924f899c15ea7a09d2c0f999052e440966475b7884293ea2", func := "consign/consignlaw11.InsertOdd", spec := "insertOdd", unfollowed := true, recurses := true, named := ["consign/load.signs"], apart := false, laid := [("consign/load.signs", laid_consign_load_signs)], narrowed := true }
def InsertOddUptoSaid : Prop := insertOddUptoRow.holds Tryd.pinned (OpenSpec.upto insertOddSpec)

/-- 'consignlaw11.InsertPlaces', WHERE WHAT IT READS IS OF BULK AT MOST 1048576: true; the input reads as it did. -/
def insertPlacesUptoRow : OpenClaim := { program := "ythjdacbgcpldjaadoor", sum := "ff2834632776eac1924f899c15ea7a09d2c0f999052e440966475b7884293ea2", func := "consign/consignlaw11.InsertPlaces", spec := "insertPlaces", unfollowed := true, recurses := true, named := ["consign/load.signs"], apart := false, laid := [("consign/load.signs", laid_consign_load_signs)], narrowed := true }
def InsertPlacesUptoSaid : Prop := insertPlacesUptoRow.holds Tryd.pinned (OpenSpec.upto insertPlacesSpec)

/-- 'consignlaw11.InsertRight', WHERE WHAT IT READS IS OF BULK AT MOST 1048576: true; the input reads as it did. -/
def insertRightUptoRow : OpenClaim := { program := "ythjdacbgcpldjaadoor", sum := "ff2834632776eac1924f899c15ea7a09d2c0f999052e440966475b7884293ea2", func := "consign/consignlaw11.InsertRight", spec := "insertRight", unfollowed := true, recurses := true, named := ["consign/load.signs"], apart := false, laid := [("consign/load.signs", laid_consign_load_signs)], narrowed := true }
def InsertRightUptoSaid : Prop := insertRightUptoRow.holds Tryd.pinned (OpenSpec.upto insertRightSpec)

/-- 'consignlaw11.InsertOpen', WHERE WHAT IT READS IS OF BULK AT MOST 1048576: true; the input reads as it did. -/
def insertOpenUptoRow : OpenClaim := { program := "ythjdacbgcpldjaadoor", sum := "ff2834632776eac1924f899c15ea7a09d2c0f999052e440966475b7884293ea2", func := "consign/consignlaw11.InsertOpen", spec := "insertOpen", unfollowed := true, recurses := true, named := ["consign/load.signs"], apart := false, laid := [("consign/load.signs", laid_consign_load_signs)], narrowed := true }
def InsertOpenUptoSaid : Prop := insertOpenUptoRow.holds Tryd.pinned (OpenSpec.upto insertOpenSpec)

/-- 'consignlaw11.InsertSums', WHERE WHAT IT READS IS OF BULK AT MOST 1048576: true; the input reads as it did. -/
def insertSumsUptoRow : OpenClaim := { program := "ythjdacbgcpldjaadoor", sum := "ff2834632776eac1924f899c15ea7a09d2c0f999052e440966475b7884293ea2", func := "consign/consignlaw11.InsertSums", spec := "insertSums", unfollowed := true, recurses := true, named := ["consign/load.signs"], apart := false, laid := [("consign/load.signs", laid_consign_load_signs)], narrowed := true }
def InsertSumsUptoSaid : Prop := insertSumsUptoRow.holds Tryd.pinned (OpenSpec.upto insertSumsSpec)

/-- 'consignlaw11.InsertKnown', WHERE WHAT IT READS IS OF BULK AT MOST 1048576: true; the input reads as it did. -/
def insertKnownUptoRow : OpenClaim := { program := "ythjdacbgcpldjaadoor", sum := "ff2834632776eac1924f899c15ea7a09d2c0f999052e440966475b7884293ea2", func := "consign/consignlaw11.InsertKnown", spec := "insertKnown", unfollowed := true, recurses := true, named := ["consign/load.signs"], apart := false, laid := [("consign/load.signs", laid_consign_load_signs)], narrowed := true }
def InsertKnownUptoSaid : Prop := insertKnownUptoRow.holds Tryd.pinned (OpenSpec.upto insertKnownSpec)

end Rows
end Go.Proofs.YthjdacbgcpldjaaDoor

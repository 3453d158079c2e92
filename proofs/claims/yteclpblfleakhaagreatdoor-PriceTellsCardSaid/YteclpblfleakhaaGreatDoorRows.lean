/-
  NARROWER THAN 'FOR EVERY INPUT', by the rows' own cells (each row's printed sentence says how): PriceTells: laid · PriceBids: laid.
  DERIVED. THE GIVEN ROWS OF THIS SEAT. 2 by the template 'for every input the law returns true; each argument reads behind the call as it read before'; 0 by the template 'total and deterministic' (their statements: YteclpblfleakhaaGreatDoorTotals.lean).
  GIVEN WITH THE SEED: the statements are not yours to turn. If you find one false, say at which input.
  Laid BY PROGRAM, IN A SANDBOX (cutbox-rows.mjs): the forced cells as the released guide's own fill.sh prints them over the translation b5aa12ef4a270a48… (all of the seat's roots in one cut). By AI agents, Wed Nov 11 2026. No macro, syntax, notation, axiom, sorry.
-/
import Derived.Test.YteclpblfleakhaaGreatDoorChecked
import GoSem.Claim
import GoSem.ClaimJoined
import GoSem.ClaimMapViews
import Derived.JoinedTies
import Derived.KernelRfl
namespace Go.Proofs.YteclpblfleakhaaGreatDoor
/- THE CELL 'sum', in the pinned program and in every row, IS THE sha256 OF THE DUMP (.gsa) THAT YteclpblfleakhaaGreatDoorProg.lean LOADS. Nothing in Lean hashes anything: it is a label: what it is worth is what the hold of that sum in a sandbox is worth. -/
noncomputable def Tryz.pinned : Pinned := { name := "yteclpblfleakhaagreatdoor", sum := "b5aa12ef4a270a4888f50462769670daef6231bc4d105cd656c60a1eaadebd1b", checked := Tryz.checked }
namespace Rows
def none {H : Type} : Left H := { results := [], args := [] }

/- WHAT THE LISTED PACKAGE-LEVEL VARIABLES READ AS WHEN THE CALL BEGINS. Each datum BY PROGRAM (the guide's laid-datum.mjs) off the statement by which the dump's own 'gosem.cut.vars' lays the variable. In a bare row this is a premise. The card (YteclpblfleakhaaGreatDoorCards.lean) ties it to the program's text. -/
def laid_consign_load_signs {H : Type} : DataW H := .agg [.lit (.int .i64 1), .lit (.int .i64 (-1))]
def laid_consign_cheap_none {H : Type} : DataW H := .agg [.lit (.int .i64 (-1)), .lit (.int .i64 (-1)), .lit (.int .i64 9223372036854775807)]
def laid_consign_price_none {H : Type} : DataW H := .agg [.lit (.int .i64 (-1)), .lit (.int .i64 0), .lit (.int .i64 0), .lit (.int .i64 0)]

/-- 'consignlaw14.PriceTells': WHATEVER THE INPUT: true; the input reads as it did. -/
def priceTellsSpec : ChangeSpec := { name := "priceTells", fn := fun _ => fun
  | [d1, d2, d3] => { results := [.lit (.bool true)], args := [d1, d2, d3] }
  | _ => none }
def priceTellsRow : OpenClaim := { program := "yteclpblfleakhaagreatdoor", sum := "b5aa12ef4a270a4888f50462769670daef6231bc4d105cd656c60a1eaadebd1b", func := "consign/consignlaw14.PriceTells", spec := "priceTells", unfollowed := true, recurses := true, named := ["consign/price.none", "consign/cheap.none", "consign/load.signs"], apart := false, laid := [("consign/load.signs", laid_consign_load_signs), ("consign/cheap.none", laid_consign_cheap_none), ("consign/price.none", laid_consign_price_none)] }
def PriceTellsSaid : Prop := priceTellsRow.holds Tryz.pinned (OpenSpec.ofChange priceTellsSpec)

/-- ITS FALSE NEIGHBOUR: 'it returns false'. Refute it at one input. -/
def priceTellsWrong : ChangeSpec := { name := "priceTells", fn := fun _ => fun
  | [d1, d2, d3] => { results := [.lit (.bool false)], args := [d1, d2, d3] }
  | _ => none }
def PriceTellsWrongFalsely : Prop := priceTellsRow.holds Tryz.pinned (OpenSpec.ofChange priceTellsWrong)

/-- 'consignlaw14.PriceBids': WHATEVER THE INPUT: true; the input reads as it did. -/
def priceBidsSpec : ChangeSpec := { name := "priceBids", fn := fun _ => fun
  | [d1, d2, d3] => { results := [.lit (.bool true)], args := [d1, d2, d3] }
  | _ => none }
def priceBidsRow : OpenClaim := { program := "yteclpblfleakhaagreatdoor", sum := "b5aa12ef4a270a4888f50462769670daef6231bc4d105cd656c60a1eaadebd1b", func := "consign/consignlaw14.PriceBids", spec := "priceBids", unfollowed := true, recurses := true, named := ["consign/price.none", "consign/cheap.none", "consign/load.signs"], apart := false, laid := [("consign/load.signs", laid_consign_load_signs), ("consign/cheap.none", laid_consign_cheap_none), ("consign/price.none", laid_consign_price_none)] }
def PriceBidsSaid : Prop := priceBidsRow.holds Tryz.pinned (OpenSpec.ofChange priceBidsSpec)

/-- ITS FALSE NEIGHBOUR: 'it returns false'. Refute it at one input. -/
def priceBidsWrong : ChangeSpec := { name := "priceBids", fn := fun _ => fun
  | [d1, d2, d3] => { results := [.lit (.bool false)], args := [d1, d2, d3] }
  | _ => none }
def PriceBidsWrongFalsely : Prop := priceBidsRow.holds Tryz.pinned (OpenSpec.ofChange priceBidsWrong)

/- THE SECOND FORM. 'bulk': how many values and letters a reading holds, each counted each time it is reached (what is shared counts as often as it is met; a slice's spare places count too). A statement '..UptoSaid' is the law's where the arguments, and the package variables that the reading takes, are together of bulk at most 1048576: NARROWER than '..Said'. Prove '..Said' where nothing that the law and all that it calls make is longer than what came in: it says more and counts as full. Else prove '..UptoSaid'. A law counts once. -/
mutual
def uptoBulk {H : Type} : DataW H → Nat
  | .lit (.string bytes) => bytes.length + 1
  | .lit _ => 1
  | .nil => 1
  | .ptr d => uptoBulk d + 1
  | .slice elems spare => uptoBulkAll elems + uptoBulkAll spare + 1
  | .agg parts => uptoBulkAll parts + 1
  | .iface _ d => uptoBulk d + 1
  | .map entries => uptoBulkEntries entries + 1
  | .held _ => 1
def uptoBulkAll {H : Type} : List (DataW H) → Nat
  | [] => 0
  | d :: r => uptoBulk d + uptoBulkAll r
def uptoBulkEntries {H : Type} : List (Lit × DataW H) → Nat
  | [] => 0
  | x :: r => uptoBulkEntry x + uptoBulkEntries r
def uptoBulkEntry {H : Type} : Lit × DataW H → Nat
  | (.string bytes, d) => bytes.length + uptoBulk d + 1
  | (_, d) => uptoBulk d + 1
 end
def uptoSmall : (H : Type) → List (DataW H) → Bool := fun _ ds => decide (uptoBulkAll ds ≤ 1048576)
def OpenSpec.upto (s : _root_.Go.ChangeSpec) : _root_.Go.OpenSpec := { _root_.Go.OpenSpec.ofChange s with cond := some uptoSmall }

/-- 'consignlaw14.PriceTells', WHERE WHAT IT READS IS OF BULK AT MOST 1048576: true; the input reads as it did. -/
def priceTellsUptoRow : OpenClaim := { program := "yteclpblfleakhaagreatdoor", sum := "b5aa12ef4a270a4888f50462769670daef6231bc4d105cd656c60a1eaadebd1b", func := "consign/consignlaw14.PriceTells", spec := "priceTells", unfollowed := true, recurses := true, named := ["consign/price.none", "consign/cheap.none", "consign/load.signs"], apart := false, laid := [("consign/load.signs", laid_consign_load_signs), ("consign/cheap.none", laid_consign_cheap_none), ("consign/price.none", laid_consign_price_none)], narrowed := true }
def PriceTellsUptoSaid : Prop := priceTellsUptoRow.holds Tryz.pinned (OpenSpec.upto priceTellsSpec)

/-- 'consignlaw14.PriceBids', WHERE WHAT IT READS IS OF BULK AT MOST 1048576: true; the input reads as it did. -/
def priceBidsUptoRow : OpenClaim := { program := "yteclpblfleakhaagreatdoor", sum := "b5aa12ef4a270a4888f50462769670daef6231bc4d105cd656c60a1eaadebd1b", func := "consign/consignlaw14.PriceBids", spec := "priceBids", unfollowed := true, recurses := true, named := ["consign/price.none", "consign/cheap.none", "consign/load.signs"], apart := false, laid := [("consign/load.signs", laid_consign_load_signs), ("consign/cheap.none", laid_consign_cheap_none), ("consign/price.none", laid_consign_price_none)], narrowed := true }
def PriceBidsUptoSaid : Prop := priceBidsUptoRow.holds Tryz.pinned (OpenSpec.upto priceBidsSpec)

end Rows
end Go.Proofs.YteclpblfleakhaaGreatDoor

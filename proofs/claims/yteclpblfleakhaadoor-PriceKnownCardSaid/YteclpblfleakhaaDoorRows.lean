/-
  NARROWER THAN 'FOR EVERY INPUT', by the rows' own cells (each row's printed sentence says how): PriceLeast: laid · PricePlace: laid · PriceMore: laid · PriceKnown: laid.
  DERIVED. THE GIVEN ROWS OF THIS SEAT. 4 by the template 'for every input the law returns true; each argument reads behind the call as it read before'; 0 by the template 'total and deterministic' (their statements: YteclpblfleakhaaDoorTotals.lean).
  GIVEN WITH THE SEED: the statements are not yours to turn. If you find one false, say at which input.
  Laid BY PROGRAM, IN A SANDBOX (cutbox-rows.mjs): the forced cells as the released guide's own fill.sh prints them over the translation ec05d888c137369b… (all of the seat's roots in one cut). By AI agents, Wed Nov 11 2026. No macro, syntax, notation, axiom, sorry.
-/
import Derived.Test.YteclpblfleakhaaDoorChecked
import GoSem.Claim
import GoSem.ClaimJoined
import GoSem.ClaimMapViews
import Derived.JoinedTies
import Derived.KernelRfl
namespace Go.Proofs.YteclpblfleakhaaDoor
/- THE CELL 'sum', in the pinned program and in every row, IS THE sha256 OF THE DUMP (.gsa) THAT YteclpblfleakhaaDoorProg.lean LOADS. Nothing in Lean hashes anything: it is a label: what it is worth is what the hold of that sum in a sandbox is worth. -/
noncomputable def Tryd.pinned : Pinned := { name := "yteclpblfleakhaadoor", sum := "ec05d888c137369b7b425b86248570db00964990a7d05854a0f319ed45513185", checked := Tryd.checked }
namespace Rows
def none {H : Type} : Left H := { results := [], args := [] }

/- WHAT THE LISTED PACKAGE-LEVEL VARIABLES READ AS WHEN THE CALL BEGINS. Each datum BY PROGRAM (the guide's laid-datum.mjs) off the statement by which the dump's own 'gosem.cut.vars' lays the variable. In a bare row this is a premise. The card (YteclpblfleakhaaDoorCards.lean) ties it to the program's text. -/
def laid_consign_load_signs {H : Type} : DataW H := .agg [.lit (.int .i64 1), .lit (.int .i64 (-1))]
def laid_consign_cheap_none {H : Type} : DataW H := .agg [.lit (.int .i64 (-1)), .lit (.int .i64 (-1)), .lit (.int .i64 9223372036854775807)]
def laid_consign_price_none {H : Type} : DataW H := .agg [.lit (.int .i64 (-1)), .lit (.int .i64 0), .lit (.int .i64 0), .lit (.int .i64 0)]

/-- 'consignlaw14.PriceLeast': WHATEVER THE INPUT: true; the input reads as it did. -/
def priceLeastSpec : ChangeSpec := { name := "priceLeast", fn := fun _ => fun
  | [d1, d2, d3] => { results := [.lit (.bool true)], args := [d1, d2, d3] }
  | _ => none }
def priceLeastRow : OpenClaim := { program := "yteclpblfleakhaadoor", sum := "ec05d888c137369b7b425b86248570db00964990a7d05854a0f319ed45513185", func := "consign/consignlaw14.PriceLeast", spec := "priceLeast", unfollowed := true, recurses := true, named := ["consign/price.none", "consign/cheap.none", "consign/load.signs"], apart := false, laid := [("consign/load.signs", laid_consign_load_signs), ("consign/cheap.none", laid_consign_cheap_none), ("consign/price.none", laid_consign_price_none)] }
def PriceLeastSaid : Prop := priceLeastRow.holds Tryd.pinned (OpenSpec.ofChange priceLeastSpec)

/-- ITS FALSE NEIGHBOUR: 'it returns false'. Refute it at one input. -/
def priceLeastWrong : ChangeSpec := { name := "priceLeast", fn := fun _ => fun
  | [d1, d2, d3] => { results := [.lit (.bool false)], args := [d1, d2, d3] }
  | _ => none }
def PriceLeastWrongFalsely : Prop := priceLeastRow.holds Tryd.pinned (OpenSpec.ofChange priceLeastWrong)

/-- 'consignlaw14.PricePlace': WHATEVER THE INPUT: true; the input reads as it did. -/
def pricePlaceSpec : ChangeSpec := { name := "pricePlace", fn := fun _ => fun
  | [d1, d2, d3] => { results := [.lit (.bool true)], args := [d1, d2, d3] }
  | _ => none }
def pricePlaceRow : OpenClaim := { program := "yteclpblfleakhaadoor", sum := "ec05d888c137369b7b425b86248570db00964990a7d05854a0f319ed45513185", func := "consign/consignlaw14.PricePlace", spec := "pricePlace", unfollowed := true, recurses := true, named := ["consign/price.none", "consign/cheap.none", "consign/load.signs"], apart := false, laid := [("consign/load.signs", laid_consign_load_signs), ("consign/cheap.none", laid_consign_cheap_none), ("consign/price.none", laid_consign_price_none)] }
def PricePlaceSaid : Prop := pricePlaceRow.holds Tryd.pinned (OpenSpec.ofChange pricePlaceSpec)

/-- ITS FALSE NEIGHBOUR: 'it returns false'. Refute it at one input. -/
def pricePlaceWrong : ChangeSpec := { name := "pricePlace", fn := fun _ => fun
  | [d1, d2, d3] => { results := [.lit (.bool false)], args := [d1, d2, d3] }
  | _ => none }
def PricePlaceWrongFalsely : Prop := pricePlaceRow.holds Tryd.pinned (OpenSpec.ofChange pricePlaceWrong)

/-- 'consignlaw14.PriceMore': WHATEVER THE INPUT: true; the input reads as it did. -/
def priceMoreSpec : ChangeSpec := { name := "priceMore", fn := fun _ => fun
  | [d1, d2, d3] => { results := [.lit (.bool true)], args := [d1, d2, d3] }
  | _ => none }
def priceMoreRow : OpenClaim := { program := "yteclpblfleakhaadoor", sum := "ec05d888c137369b7b425b86248570db00964990a7d05854a0f319ed45513185", func := "consign/consignlaw14.PriceMore", spec := "priceMore", unfollowed := true, recurses := true, named := ["consign/price.none", "consign/cheap.none", "consign/load.signs"], apart := false, laid := [("consign/load.signs", laid_consign_load_signs), ("consign/cheap.none", laid_consign_cheap_none), ("consign/price.none", laid_consign_price_none)] }
def PriceMoreSaid : Prop := priceMoreRow.holds Tryd.pinned (OpenSpec.ofChange priceMoreSpec)

/-- ITS FALSE NEIGHBOUR: 'it returns false'. Refute it at one input. -/
def priceMoreWrong : ChangeSpec := { name := "priceMore", fn := fun _ => fun
  | [d1, d2, d3] => { results := [.lit (.bool false)], args := [d1, d2, d3] }
  | _ => none }
def PriceMoreWrongFalsely : Prop := priceMoreRow.holds Tryd.pinned (OpenSpec.ofChange priceMoreWrong)

/-- 'consignlaw14.PriceKnown': WHATEVER THE INPUT: true; the input reads as it did. -/
def priceKnownSpec : ChangeSpec := { name := "priceKnown", fn := fun _ => fun
  | [] => { results := [.lit (.bool true)], args := [] }
  | _ => none }
def priceKnownRow : OpenClaim := { program := "yteclpblfleakhaadoor", sum := "ec05d888c137369b7b425b86248570db00964990a7d05854a0f319ed45513185", func := "consign/consignlaw14.PriceKnown", spec := "priceKnown", unfollowed := true, recurses := true, named := ["consign/price.none", "consign/cheap.none", "consign/load.signs"], apart := false, laid := [("consign/load.signs", laid_consign_load_signs), ("consign/cheap.none", laid_consign_cheap_none), ("consign/price.none", laid_consign_price_none)] }
def PriceKnownSaid : Prop := priceKnownRow.holds Tryd.pinned (OpenSpec.ofChange priceKnownSpec)

/-- ITS FALSE NEIGHBOUR: 'it returns false'. Refute it at one input. -/
def priceKnownWrong : ChangeSpec := { name := "priceKnown", fn := fun _ => fun
  | [] => { results := [.lit (.bool false)], args := [] }
  | _ => none }
def PriceKnownWrongFalsely : Prop := priceKnownRow.holds Tryd.pinned (OpenSpec.ofChange priceKnownWrong)

/- THE SECOND FORM. 'bulk': how many values and letters a reading holds, each counted each time it is reached (what is shared counts as often as it is met; a slice's spare places count too). A statement '..UptoSaid' is the law's where the arguments, and the package variables that the reading takes, are together of bulk at most 1048576: NARROWER than '..Said'. Prove '..Said' where nothing that the law and all that it calls make is longer than what came in: it says more and counts as full. Else prove '..UptoSaid'. A law counts once. -/
mutual
def uptoBulk {H : Type} : DataW H → Nat
  | .lit (.string bytes) => bytes.length + 1
  | .lit _ => 1
  | .nil => 1
  | .ptr d => uptoBulk d + 1
  | .slice elems spare => uptoBulkAll elems + uptoBulkAll spare + 1
  | .agg parts => uptoBulkAll parts + 1
  | .iface _ d => uptoBulk d + 1
  | .map entries => uptoBulkEntries entries + 1
  | .held _ => 1
def uptoBulkAll {H : Type} : List (DataW H) → Nat
  | [] => 0
  | d :: r => uptoBulk d + uptoBulkAll r
def uptoBulkEntries {H : Type} : List (Lit × DataW H) → Nat
  | [] => 0
  | x :: r => uptoBulkEntry x + uptoBulkEntries r
def uptoBulkEntry {H : Type} : Lit × DataW H → Nat
  | (.string bytes, d) => bytes.length + uptoBulk d + 1
  | (_, d) => uptoBulk d + 1
 end
def uptoSmall : (H : Type) → List (DataW H) → Bool := fun _ ds => decide (uptoBulkAll ds ≤ 1048576)
def OpenSpec.upto (s : _root_.Go.ChangeSpec) : _root_.Go.OpenSpec := { _root_.Go.OpenSpec.ofChange s with cond := some uptoSmall }

/-- 'consignlaw14.PriceLeast', WHERE WHAT IT READS IS OF BULK AT MOST 1048576: true; the input reads as it did. -/
def priceLeastUptoRow : OpenClaim := { program := "yteclpblfleakhaadoor", sum := "ec05d888c137369b7b425b86248570db00964990a7d05854a0f319ed45513185", func := "consign/consignlaw14.PriceLeast", spec := "priceLeast", unfollowed := true, recurses := true, named := ["consign/price.none", "consign/cheap.none", "consign/load.signs"], apart := false, laid := [("consign/load.signs", laid_consign_load_signs), ("consign/cheap.none", laid_consign_cheap_none), ("consign/price.none", laid_consign_price_none)], narrowed := true }
def PriceLeastUptoSaid : Prop := priceLeastUptoRow.holds Tryd.pinned (OpenSpec.upto priceLeastSpec)

/-- 'consignlaw14.PricePlace', WHERE WHAT IT READS IS OF BULK AT MOST 1048576: true; the input reads as it did. -/
def pricePlaceUptoRow : OpenClaim := { program := "yteclpblfleakhaadoor", sum := "ec05d888c137369b7b425b86248570db00964990a7d05854a0f319ed45513185", func := "consign/consignlaw14.PricePlace", spec := "pricePlace", unfollowed := true, recurses := true, named := ["consign/price.none", "consign/cheap.none", "consign/load.signs"], apart := false, laid := [("consign/load.signs", laid_consign_load_signs), ("consign/cheap.none", laid_consign_cheap_none), ("consign/price.none", laid_consign_price_none)], narrowed := true }
def PricePlaceUptoSaid : Prop := pricePlaceUptoRow.holds Tryd.pinned (OpenSpec.upto pricePlaceSpec)

/-- 'consignlaw14.PriceMore', WHERE WHAT IT READS IS OF BULK AT MOST 1048576: true; the input reads as it did. -/
def priceMoreUptoRow : OpenClaim := { program := "yteclpblfleakhaadoor", sum := "ec05d888c137369b7b425b86248570db00964990a7d05854a0f319ed45513185", func := "consign/consignlaw14.PriceMore", spec := "priceMore", unfollowed := true, recurses := true, named := ["consign/price.none", "consign/cheap.none", "consign/load.signs"], apart := false, laid := [("consign/load.signs", laid_consign_load_signs), ("consign/cheap.none", laid_consign_cheap_none), ("consign/price.none", laid_consign_price_none)], narrowed := true }
def PriceMoreUptoSaid : Prop := priceMoreUptoRow.holds Tryd.pinned (OpenSpec.upto priceMoreSpec)

/-- 'consignlaw14.PriceKnown', WHERE WHAT IT READS IS OF BULK AT MOST 1048576: true; the input reads as it did. -/
def priceKnownUptoRow : OpenClaim := { program := "yteclpblfleakhaadoor", sum := "ec05d888c137369b7b425b86248570db00964990a7d05854a0f319ed45513185", func := "consign/consignlaw14.PriceKnown", spec := "priceKnown", unfollowed := true, recurses := true, named := ["consign/price.none", "consign/cheap.none", "consign/load.signs"], apart := false, laid := [("consign/load.signs", laid_consign_load_signs), ("consign/cheap.none", laid_consign_cheap_none), ("consign/price.none", laid_consign_price_none)], narrowed := true }
def PriceKnownUptoSaid : Prop := priceKnownUptoRow.holds Tryd.pinned (OpenSpec.upto priceKnownSpec)

end Rows
end Go.Proofs.YteclpblfleakhaaDoor

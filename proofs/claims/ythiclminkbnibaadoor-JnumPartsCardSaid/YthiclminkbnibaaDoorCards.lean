/-
  DERIVED. GIVEN WITH THE SEED: THE CARDS: each row of YthiclminkbnibaaDoorRows.lean that lists a variable, with what it lists TIED to the program's text (the seventh form; the later family's looks); each row that meets fmt, with fmt's text TOLD by the authors' own Lean function (tested against real Go, not proved from fmt's source: count such statements apart). THE CARD IS WHAT COUNTS. Prove the row's statement (the work); the ties are given (YthiclminkbnibaaDoorTie.lean); close each card by the builder's one call (the guide's Derived/Test/ToyasCard.lean, 'card_holds'). Laid BY PROGRAM, IN A SANDBOX (cutbox-door.mjs). By AI agents, Wed Nov 11 2026. No macro, syntax, notation, axiom, sorry.
-/
import Derived.Test.YthiclminkbnibaaDoorRows
import GoSem.ClaimSeven
namespace Go.Proofs.YthiclminkbnibaaDoor
namespace Rows

/-- THE TIED CARD OF 'tidegatelaw09.JnumScans'. -/
def jnumScansCard : Claim7 := { stood := { row := jnumScansRow, standIns := [], harness := (true, "07f5869680f2fe139880c78b7d43e1a5277f4a316349809600aa34e17dd66d4a"), looks := true }, kinds := [], alts := [], laidByText := true, laidKinds := [.data, .pinned], laidTests := true, laidLooks := .later }
def JnumScansCardSaid : Prop := Claim7.holds Tryd.pinned (.plain (OpenSpec.ofChange jnumScansSpec)) jnumScansCard

/-- THE TIED CARD OF 'tidegatelaw09.JnumParts'. -/
def jnumPartsCard : Claim7 := { stood := { row := jnumPartsRow, standIns := [], harness := (true, "07f5869680f2fe139880c78b7d43e1a5277f4a316349809600aa34e17dd66d4a"), looks := true }, kinds := [], alts := [], laidByText := true, laidKinds := [.data, .pinned], laidTests := true, laidLooks := .later }
def JnumPartsCardSaid : Prop := Claim7.holds Tryd.pinned (.plain (OpenSpec.ofChange jnumPartsSpec)) jnumPartsCard

/-- THE TIED CARD OF 'tidegatelaw09.JnumValues'. -/
def jnumValuesCard : Claim7 := { stood := { row := jnumValuesRow, standIns := [], harness := (true, "07f5869680f2fe139880c78b7d43e1a5277f4a316349809600aa34e17dd66d4a"), looks := true }, kinds := [], alts := [], laidByText := true, laidKinds := [.data, .pinned], laidTests := true, laidLooks := .later }
def JnumValuesCardSaid : Prop := Claim7.holds Tryd.pinned (.plain (OpenSpec.ofChange jnumValuesSpec)) jnumValuesCard

/-- THE SECOND FORM's CARD OF 'tidegatelaw09.JnumScans'. -/
def jnumScansUptoCard : Claim7 := { stood := { row := jnumScansUptoRow, standIns := [], harness := (true, "07f5869680f2fe139880c78b7d43e1a5277f4a316349809600aa34e17dd66d4a"), looks := true }, kinds := [], alts := [], laidByText := true, laidKinds := [.data, .pinned], laidTests := true, laidLooks := .later }
def JnumScansUptoCardSaid : Prop := Claim7.holds Tryd.pinned (.plain (OpenSpec.upto jnumScansSpec)) jnumScansUptoCard

/-- THE SECOND FORM's CARD OF 'tidegatelaw09.JnumParts'. -/
def jnumPartsUptoCard : Claim7 := { stood := { row := jnumPartsUptoRow, standIns := [], harness := (true, "07f5869680f2fe139880c78b7d43e1a5277f4a316349809600aa34e17dd66d4a"), looks := true }, kinds := [], alts := [], laidByText := true, laidKinds := [.data, .pinned], laidTests := true, laidLooks := .later }
def JnumPartsUptoCardSaid : Prop := Claim7.holds Tryd.pinned (.plain (OpenSpec.upto jnumPartsSpec)) jnumPartsUptoCard

/-- THE SECOND FORM's CARD OF 'tidegatelaw09.JnumValues'. -/
def jnumValuesUptoCard : Claim7 := { stood := { row := jnumValuesUptoRow, standIns := [], harness := (true, "07f5869680f2fe139880c78b7d43e1a5277f4a316349809600aa34e17dd66d4a"), looks := true }, kinds := [], alts := [], laidByText := true, laidKinds := [.data, .pinned], laidTests := true, laidLooks := .later }
def JnumValuesUptoCardSaid : Prop := Claim7.holds Tryd.pinned (.plain (OpenSpec.upto jnumValuesSpec)) jnumValuesUptoCard
end Rows
end Go.Proofs.YthiclminkbnibaaDoor

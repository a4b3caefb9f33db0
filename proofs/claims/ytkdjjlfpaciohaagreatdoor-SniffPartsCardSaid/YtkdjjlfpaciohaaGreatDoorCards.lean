/-
  DERIVED. GIVEN WITH THE SEED: THE CARDS: each row of YtkdjjlfpaciohaaGreatDoorRows.lean that lists a variable, with what it lists TIED to the program's text (the seventh form; the later family's looks); each row that meets fmt, with fmt's text TOLD by the authors' own Lean function (tested against real Go, not proved from fmt's source: count such statements apart). THE CARD IS WHAT COUNTS. Prove the row's statement (the work); the ties are given (YtkdjjlfpaciohaaGreatDoorTie.lean); close each card by the builder's one call (the guide's Derived/Test/ToyasCard.lean, 'card_holds'). Laid BY PROGRAM, IN A SANDBOX (cutbox-door.mjs). By AI agents, Wed Nov 11 2026. No macro, syntax, notation, axiom, sorry.
-/
import Derived.Test.YtkdjjlfpaciohaaGreatDoorRows
import GoSem.ClaimSeven
namespace Go.Proofs.YtkdjjlfpaciohaaGreatDoor
namespace Rows

/-- THE TIED CARD OF 'tidegatelaw21.SniffTypes'. -/
def sniffTypesCard : Claim7 := { stood := { row := sniffTypesRow, standIns := [], harness := (true, "b55a7d948b28c5ea0b4cf2f50f3154c6288e08699aa8508521813d14789fb68f"), looks := true }, kinds := [], alts := [], laidByText := true, laidKinds := [.data, .pinned], laidTests := true, laidLooks := .later }
def SniffTypesCardSaid : Prop := Claim7.holds Tryz.pinned (.plain (OpenSpec.ofChange sniffTypesSpec)) sniffTypesCard

/-- THE TIED CARD OF 'tidegatelaw21.SniffParts'. -/
def sniffPartsCard : Claim7 := { stood := { row := sniffPartsRow, standIns := [], harness := (true, "b55a7d948b28c5ea0b4cf2f50f3154c6288e08699aa8508521813d14789fb68f"), looks := true }, kinds := [], alts := [], laidByText := true, laidKinds := [.data, .pinned], laidTests := true, laidLooks := .later }
def SniffPartsCardSaid : Prop := Claim7.holds Tryz.pinned (.plain (OpenSpec.ofChange sniffPartsSpec)) sniffPartsCard

/-- THE TIED CARD OF 'tidegatelaw21.SniffStays'. -/
def sniffStaysCard : Claim7 := { stood := { row := sniffStaysRow, standIns := [], harness := (true, "b55a7d948b28c5ea0b4cf2f50f3154c6288e08699aa8508521813d14789fb68f"), looks := true }, kinds := [], alts := [], laidByText := true, laidKinds := [.data, .pinned], laidTests := true, laidLooks := .later }
def SniffStaysCardSaid : Prop := Claim7.holds Tryz.pinned (.plain (OpenSpec.ofChange sniffStaysSpec)) sniffStaysCard

/-- THE SECOND FORM's CARD OF 'tidegatelaw21.SniffTypes'. -/
def sniffTypesUptoCard : Claim7 := { stood := { row := sniffTypesUptoRow, standIns := [], harness := (true, "b55a7d948b28c5ea0b4cf2f50f3154c6288e08699aa8508521813d14789fb68f"), looks := true }, kinds := [], alts := [], laidByText := true, laidKinds := [.data, .pinned], laidTests := true, laidLooks := .later }
def SniffTypesUptoCardSaid : Prop := Claim7.holds Tryz.pinned (.plain (OpenSpec.upto sniffTypesSpec)) sniffTypesUptoCard

/-- THE SECOND FORM's CARD OF 'tidegatelaw21.SniffParts'. -/
def sniffPartsUptoCard : Claim7 := { stood := { row := sniffPartsUptoRow, standIns := [], harness := (true, "b55a7d948b28c5ea0b4cf2f50f3154c6288e08699aa8508521813d14789fb68f"), looks := true }, kinds := [], alts := [], laidByText := true, laidKinds := [.data, .pinned], laidTests := true, laidLooks := .later }
def SniffPartsUptoCardSaid : Prop := Claim7.holds Tryz.pinned (.plain (OpenSpec.upto sniffPartsSpec)) sniffPartsUptoCard

/-- THE SECOND FORM's CARD OF 'tidegatelaw21.SniffStays'. -/
def sniffStaysUptoCard : Claim7 := { stood := { row := sniffStaysUptoRow, standIns := [], harness := (true, "b55a7d948b28c5ea0b4cf2f50f3154c6288e08699aa8508521813d14789fb68f"), looks := true }, kinds := [], alts := [], laidByText := true, laidKinds := [.data, .pinned], laidTests := true, laidLooks := .later }
def SniffStaysUptoCardSaid : Prop := Claim7.holds Tryz.pinned (.plain (OpenSpec.upto sniffStaysSpec)) sniffStaysUptoCard
end Rows
end Go.Proofs.YtkdjjlfpaciohaaGreatDoor

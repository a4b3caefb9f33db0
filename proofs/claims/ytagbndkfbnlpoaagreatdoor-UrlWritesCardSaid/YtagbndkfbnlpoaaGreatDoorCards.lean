/-
  DERIVED. GIVEN WITH THE SEED: THE CARDS: each row of YtagbndkfbnlpoaaGreatDoorRows.lean that lists a variable, with what it lists TIED to the program's text (the seventh form; the later family's looks); each row that meets fmt, with fmt's text TOLD by the authors' own Lean function (tested against real Go, not proved from fmt's source: count such statements apart). THE CARD IS WHAT COUNTS. Prove the row's statement (the work); the ties are given (YtagbndkfbnlpoaaGreatDoorTie.lean); close each card by the builder's one call (the guide's Derived/Test/ToyasCard.lean, 'card_holds'). Laid BY PROGRAM, IN A SANDBOX (cutbox-door.mjs). By AI agents, Wed Nov 11 2026. No macro, syntax, notation, axiom, sorry.
-/
import Derived.Test.YtagbndkfbnlpoaaGreatDoorRows
import GoSem.ClaimSeven
namespace Go.Proofs.YtagbndkfbnlpoaaGreatDoor
namespace Rows

/-- THE TIED CARD OF 'tidegatelaw26.UrlReads'. -/
def urlReadsCard : Claim7 := { stood := { row := urlReadsRow, standIns := [], harness := (true, "32aad7dbf78f7b8f84c2e004db5de41a3ea8ca15aee366d21df9daed7914083b"), looks := true }, kinds := [], alts := [], laidByText := true, laidKinds := [.data, .data, .data, .data, .pinned], laidTests := true, laidLooks := .later }
def UrlReadsCardSaid : Prop := Claim7.holds Tryz.pinned (.plain (OpenSpec.ofChange urlReadsSpec)) urlReadsCard

/-- THE TIED CARD OF 'tidegatelaw26.UrlWrites'. -/
def urlWritesCard : Claim7 := { stood := { row := urlWritesRow, standIns := [], harness := (true, "32aad7dbf78f7b8f84c2e004db5de41a3ea8ca15aee366d21df9daed7914083b"), looks := true }, kinds := [], alts := [], laidByText := true, laidKinds := [.data, .data, .data, .data, .pinned], laidTests := true, laidLooks := .later }
def UrlWritesCardSaid : Prop := Claim7.holds Tryz.pinned (.plain (OpenSpec.ofChange urlWritesSpec)) urlWritesCard

/-- THE TIED CARD OF 'tidegatelaw26.UrlLong'. -/
def urlLongCard : Claim7 := { stood := { row := urlLongRow, standIns := [], harness := (true, "32aad7dbf78f7b8f84c2e004db5de41a3ea8ca15aee366d21df9daed7914083b"), looks := true }, kinds := [], alts := [], laidByText := true, laidKinds := [.data, .data, .data, .data, .pinned], laidTests := true, laidLooks := .later }
def UrlLongCardSaid : Prop := Claim7.holds Tryz.pinned (.plain (OpenSpec.ofChange urlLongSpec)) urlLongCard

/-- THE SECOND FORM's CARD OF 'tidegatelaw26.UrlReads'. -/
def urlReadsUptoCard : Claim7 := { stood := { row := urlReadsUptoRow, standIns := [], harness := (true, "32aad7dbf78f7b8f84c2e004db5de41a3ea8ca15aee366d21df9daed7914083b"), looks := true }, kinds := [], alts := [], laidByText := true, laidKinds := [.data, .data, .data, .data, .pinned], laidTests := true, laidLooks := .later }
def UrlReadsUptoCardSaid : Prop := Claim7.holds Tryz.pinned (.plain (OpenSpec.upto urlReadsSpec)) urlReadsUptoCard

/-- THE SECOND FORM's CARD OF 'tidegatelaw26.UrlWrites'. -/
def urlWritesUptoCard : Claim7 := { stood := { row := urlWritesUptoRow, standIns := [], harness := (true, "32aad7dbf78f7b8f84c2e004db5de41a3ea8ca15aee366d21df9daed7914083b"), looks := true }, kinds := [], alts := [], laidByText := true, laidKinds := [.data, .data, .data, .data, .pinned], laidTests := true, laidLooks := .later }
def UrlWritesUptoCardSaid : Prop := Claim7.holds Tryz.pinned (.plain (OpenSpec.upto urlWritesSpec)) urlWritesUptoCard

/-- THE SECOND FORM's CARD OF 'tidegatelaw26.UrlLong'. -/
def urlLongUptoCard : Claim7 := { stood := { row := urlLongUptoRow, standIns := [], harness := (true, "32aad7dbf78f7b8f84c2e004db5de41a3ea8ca15aee366d21df9daed7914083b"), looks := true }, kinds := [], alts := [], laidByText := true, laidKinds := [.data, .data, .data, .data, .pinned], laidTests := true, laidLooks := .later }
def UrlLongUptoCardSaid : Prop := Claim7.holds Tryz.pinned (.plain (OpenSpec.upto urlLongSpec)) urlLongUptoCard
end Rows
end Go.Proofs.YtagbndkfbnlpoaaGreatDoor

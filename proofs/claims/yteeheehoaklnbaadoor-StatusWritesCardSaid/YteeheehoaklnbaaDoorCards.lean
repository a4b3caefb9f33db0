/-
  DERIVED. GIVEN WITH THE SEED: THE CARDS: each row of YteeheehoaklnbaaDoorRows.lean that lists a variable, with what it lists TIED to the program's text (the seventh form; the later family's looks); each row that meets fmt, with fmt's text TOLD by the authors' own Lean function (tested against real Go, not proved from fmt's source: count such statements apart). THE CARD IS WHAT COUNTS. Prove the row's statement (the work); the ties are given (YteeheehoaklnbaaDoorTie.lean); close each card by the builder's one call (the guide's Derived/Test/ToyasCard.lean, 'card_holds'). Laid BY PROGRAM, IN A SANDBOX (cutbox-door.mjs). By AI agents, Wed Nov 11 2026. No macro, syntax, notation, axiom, sorry.
-/
import Derived.Test.YteeheehoaklnbaaDoorRows
import GoSem.ClaimSeven
namespace Go.Proofs.YteeheehoaklnbaaDoor
namespace Rows

/-- THE TIED CARD OF 'tidegatelaw25.StatusWrites'. -/
def statusWritesCard : Claim7 := { stood := { row := statusWritesRow, standIns := [], harness := (true, "a5b7b8c92a01e1673844540732da6736f2a30031332461484e302227251c6774"), looks := true }, kinds := [], alts := [], laidByText := true, laidKinds := [.data, .data, .data], laidTests := true, laidLooks := .later }
def StatusWritesCardSaid : Prop := Claim7.holds Tryd.pinned (.plain (OpenSpec.ofChange statusWritesSpec)) statusWritesCard

/-- THE SECOND FORM's CARD OF 'tidegatelaw25.StatusWrites'. -/
def statusWritesUptoCard : Claim7 := { stood := { row := statusWritesUptoRow, standIns := [], harness := (true, "a5b7b8c92a01e1673844540732da6736f2a30031332461484e302227251c6774"), looks := true }, kinds := [], alts := [], laidByText := true, laidKinds := [.data, .data, .data], laidTests := true, laidLooks := .later }
def StatusWritesUptoCardSaid : Prop := Claim7.holds Tryd.pinned (.plain (OpenSpec.upto statusWritesSpec)) statusWritesUptoCard
end Rows
end Go.Proofs.YteeheehoaklnbaaDoor

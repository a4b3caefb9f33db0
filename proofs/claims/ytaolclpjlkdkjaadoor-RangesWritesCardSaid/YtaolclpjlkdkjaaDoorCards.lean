/-
  DERIVED. GIVEN WITH THE SEED: THE CARDS: each row of YtaolclpjlkdkjaaDoorRows.lean that lists a variable, with what it lists TIED to the program's text (the seventh form; the later family's looks); each row that meets fmt, with fmt's text TOLD by the authors' own Lean function (tested against real Go, not proved from fmt's source: count such statements apart). THE CARD IS WHAT COUNTS. Prove the row's statement (the work); the ties are given (YtaolclpjlkdkjaaDoorTie.lean); close each card by the builder's one call (the guide's Derived/Test/ToyasCard.lean, 'card_holds'). Laid BY PROGRAM, IN A SANDBOX (cutbox-door.mjs). By AI agents, Wed Nov 11 2026. No macro, syntax, notation, axiom, sorry.
-/
import Derived.Test.YtaolclpjlkdkjaaDoorRows
import GoSem.ClaimSeven
namespace Go.Proofs.YtaolclpjlkdkjaaDoor
namespace Rows

/-- THE TIED CARD OF 'tidegatelaw24.RangesWrites'. -/
def rangesWritesCard : Claim7 := { stood := { row := rangesWritesRow, standIns := [], harness := (true, "cf51fabf5bad66b969602120918bb8c41af36ffa32b314ea882899355eda53af"), looks := true }, kinds := [], alts := [], laidByText := true, laidKinds := [.data, .data, .data], laidTests := true, laidLooks := .later }
def RangesWritesCardSaid : Prop := Claim7.holds Tryd.pinned (.plain (OpenSpec.ofChange rangesWritesSpec)) rangesWritesCard

/-- THE SECOND FORM's CARD OF 'tidegatelaw24.RangesWrites'. -/
def rangesWritesUptoCard : Claim7 := { stood := { row := rangesWritesUptoRow, standIns := [], harness := (true, "cf51fabf5bad66b969602120918bb8c41af36ffa32b314ea882899355eda53af"), looks := true }, kinds := [], alts := [], laidByText := true, laidKinds := [.data, .data, .data], laidTests := true, laidLooks := .later }
def RangesWritesUptoCardSaid : Prop := Claim7.holds Tryd.pinned (.plain (OpenSpec.upto rangesWritesSpec)) rangesWritesUptoCard
end Rows
end Go.Proofs.YtaolclpjlkdkjaaDoor

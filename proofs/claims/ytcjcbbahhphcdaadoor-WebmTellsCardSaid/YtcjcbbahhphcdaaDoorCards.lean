/-
  DERIVED. GIVEN WITH THE SEED: THE CARDS: each row of YtcjcbbahhphcdaaDoorRows.lean that lists a variable, with what it lists TIED to the program's text (the seventh form; the later family's looks); each row that meets fmt, with fmt's text TOLD by the authors' own Lean function (tested against real Go, not proved from fmt's source: count such statements apart). THE CARD IS WHAT COUNTS. Prove the row's statement (the work); the ties are given (YtcjcbbahhphcdaaDoorTie.lean); close each card by the builder's one call (the guide's Derived/Test/ToyasCard.lean, 'card_holds'). Laid BY PROGRAM, IN A SANDBOX (cutbox-door.mjs). By AI agents, Wed Nov 11 2026. No macro, syntax, notation, axiom, sorry.
-/
import Derived.Test.YtcjcbbahhphcdaaDoorRows
import GoSem.ClaimSeven
namespace Go.Proofs.YtcjcbbahhphcdaaDoor
namespace Rows

/-- THE TIED CARD OF 'tidegatelaw17.WebmTells'. -/
def webmTellsCard : Claim7 := { stood := { row := webmTellsRow, standIns := [], harness := (true, "f339e3b186539169094b8b386a2fecd8adb856239dd6dee708e3f5137e01442f"), looks := false }, kinds := [], alts := [], laidByText := true, laidKinds := [.data, .pinned], laidTests := true, laidLooks := .later }
def WebmTellsCardSaid : Prop := Claim7.holds Tryd.pinned (.plain (OpenSpec.ofChange webmTellsSpec)) webmTellsCard

/-- THE TIED CARD OF 'tidegatelaw17.WebmNumbers'. -/
def webmNumbersCard : Claim7 := { stood := { row := webmNumbersRow, standIns := [], harness := (true, "f339e3b186539169094b8b386a2fecd8adb856239dd6dee708e3f5137e01442f"), looks := false }, kinds := [], alts := [], laidByText := true, laidKinds := [.data, .pinned], laidTests := true, laidLooks := .later }
def WebmNumbersCardSaid : Prop := Claim7.holds Tryd.pinned (.plain (OpenSpec.ofChange webmNumbersSpec)) webmNumbersCard

/-- THE TIED CARD OF 'tidegatelaw17.WebmWrites'. -/
def webmWritesCard : Claim7 := { stood := { row := webmWritesRow, standIns := [], harness := (true, "f339e3b186539169094b8b386a2fecd8adb856239dd6dee708e3f5137e01442f"), looks := false }, kinds := [], alts := [], laidByText := true, laidKinds := [.data, .pinned], laidTests := true, laidLooks := .later }
def WebmWritesCardSaid : Prop := Claim7.holds Tryd.pinned (.plain (OpenSpec.ofChange webmWritesSpec)) webmWritesCard

/-- THE SECOND FORM's CARD OF 'tidegatelaw17.WebmTells'. -/
def webmTellsUptoCard : Claim7 := { stood := { row := webmTellsUptoRow, standIns := [], harness := (true, "f339e3b186539169094b8b386a2fecd8adb856239dd6dee708e3f5137e01442f"), looks := false }, kinds := [], alts := [], laidByText := true, laidKinds := [.data, .pinned], laidTests := true, laidLooks := .later }
def WebmTellsUptoCardSaid : Prop := Claim7.holds Tryd.pinned (.plain (OpenSpec.upto webmTellsSpec)) webmTellsUptoCard

/-- THE SECOND FORM's CARD OF 'tidegatelaw17.WebmNumbers'. -/
def webmNumbersUptoCard : Claim7 := { stood := { row := webmNumbersUptoRow, standIns := [], harness := (true, "f339e3b186539169094b8b386a2fecd8adb856239dd6dee708e3f5137e01442f"), looks := false }, kinds := [], alts := [], laidByText := true, laidKinds := [.data, .pinned], laidTests := true, laidLooks := .later }
def WebmNumbersUptoCardSaid : Prop := Claim7.holds Tryd.pinned (.plain (OpenSpec.upto webmNumbersSpec)) webmNumbersUptoCard

/-- THE SECOND FORM's CARD OF 'tidegatelaw17.WebmWrites'. -/
def webmWritesUptoCard : Claim7 := { stood := { row := webmWritesUptoRow, standIns := [], harness := (true, "f339e3b186539169094b8b386a2fecd8adb856239dd6dee708e3f5137e01442f"), looks := false }, kinds := [], alts := [], laidByText := true, laidKinds := [.data, .pinned], laidTests := true, laidLooks := .later }
def WebmWritesUptoCardSaid : Prop := Claim7.holds Tryd.pinned (.plain (OpenSpec.upto webmWritesSpec)) webmWritesUptoCard
end Rows
end Go.Proofs.YtcjcbbahhphcdaaDoor

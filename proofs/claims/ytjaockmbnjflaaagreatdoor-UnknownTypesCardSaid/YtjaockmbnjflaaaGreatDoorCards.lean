/-
  DERIVED. GIVEN WITH THE SEED: THE CARDS: each row of YtjaockmbnjflaaaGreatDoorRows.lean that lists a variable, with what it lists TIED to the program's text (the seventh form; the later family's looks); each row that meets fmt, with fmt's text TOLD by the authors' own Lean function (tested against real Go, not proved from fmt's source: count such statements apart). THE CARD IS WHAT COUNTS. Prove the row's statement (the work); the ties are given (YtjaockmbnjflaaaGreatDoorTie.lean); close each card by the builder's one call (the guide's Derived/Test/ToyasCard.lean, 'card_holds'). Laid BY PROGRAM, IN A SANDBOX (cutbox-door.mjs). By AI agents, Wed Nov 11 2026. No macro, syntax, notation, axiom, sorry.
-/
import Derived.Test.YtjaockmbnjflaaaGreatDoorRows
import GoSem.ClaimSeven
namespace Go.Proofs.YtjaockmbnjflaaaGreatDoor
namespace Rows

/-- THE TIED CARD OF 'tidegatelaw20.UnknownTypes'. -/
def unknownTypesCard : Claim7 := { stood := { row := unknownTypesRow, standIns := [], harness := (true, "e49a67eea1a09b94410143121797750ae9f42e8a50bb9fc5c8b49918299b6630"), looks := true }, kinds := [], alts := [], laidByText := true, laidKinds := [.data, .pinned], laidTests := true, laidLooks := .later }
def UnknownTypesCardSaid : Prop := Claim7.holds Tryz.pinned (.plain (OpenSpec.ofChange unknownTypesSpec)) unknownTypesCard

/-- THE TIED CARD OF 'tidegatelaw20.UnknownTexts'. -/
def unknownTextsCard : Claim7 := { stood := { row := unknownTextsRow, standIns := [], harness := (true, "e49a67eea1a09b94410143121797750ae9f42e8a50bb9fc5c8b49918299b6630"), looks := true }, kinds := [], alts := [], laidByText := true, laidKinds := [.data, .pinned], laidTests := true, laidLooks := .later }
def UnknownTextsCardSaid : Prop := Claim7.holds Tryz.pinned (.plain (OpenSpec.ofChange unknownTextsSpec)) unknownTextsCard

/-- THE TIED CARD OF 'tidegatelaw20.UnknownMedia'. -/
def unknownMediaCard : Claim7 := { stood := { row := unknownMediaRow, standIns := [], harness := (true, "e49a67eea1a09b94410143121797750ae9f42e8a50bb9fc5c8b49918299b6630"), looks := true }, kinds := [], alts := [], laidByText := true, laidKinds := [.data, .pinned], laidTests := true, laidLooks := .later }
def UnknownMediaCardSaid : Prop := Claim7.holds Tryz.pinned (.plain (OpenSpec.ofChange unknownMediaSpec)) unknownMediaCard

/-- THE TIED CARD OF 'tidegatelaw20.UnknownTags'. -/
def unknownTagsCard : Claim7 := { stood := { row := unknownTagsRow, standIns := [], harness := (true, "e49a67eea1a09b94410143121797750ae9f42e8a50bb9fc5c8b49918299b6630"), looks := true }, kinds := [], alts := [], laidByText := true, laidKinds := [.data, .pinned], laidTests := true, laidLooks := .later }
def UnknownTagsCardSaid : Prop := Claim7.holds Tryz.pinned (.plain (OpenSpec.ofChange unknownTagsSpec)) unknownTagsCard

/-- THE SECOND FORM's CARD OF 'tidegatelaw20.UnknownTypes'. -/
def unknownTypesUptoCard : Claim7 := { stood := { row := unknownTypesUptoRow, standIns := [], harness := (true, "e49a67eea1a09b94410143121797750ae9f42e8a50bb9fc5c8b49918299b6630"), looks := true }, kinds := [], alts := [], laidByText := true, laidKinds := [.data, .pinned], laidTests := true, laidLooks := .later }
def UnknownTypesUptoCardSaid : Prop := Claim7.holds Tryz.pinned (.plain (OpenSpec.upto unknownTypesSpec)) unknownTypesUptoCard

/-- THE SECOND FORM's CARD OF 'tidegatelaw20.UnknownTexts'. -/
def unknownTextsUptoCard : Claim7 := { stood := { row := unknownTextsUptoRow, standIns := [], harness := (true, "e49a67eea1a09b94410143121797750ae9f42e8a50bb9fc5c8b49918299b6630"), looks := true }, kinds := [], alts := [], laidByText := true, laidKinds := [.data, .pinned], laidTests := true, laidLooks := .later }
def UnknownTextsUptoCardSaid : Prop := Claim7.holds Tryz.pinned (.plain (OpenSpec.upto unknownTextsSpec)) unknownTextsUptoCard

/-- THE SECOND FORM's CARD OF 'tidegatelaw20.UnknownMedia'. -/
def unknownMediaUptoCard : Claim7 := { stood := { row := unknownMediaUptoRow, standIns := [], harness := (true, "e49a67eea1a09b94410143121797750ae9f42e8a50bb9fc5c8b49918299b6630"), looks := true }, kinds := [], alts := [], laidByText := true, laidKinds := [.data, .pinned], laidTests := true, laidLooks := .later }
def UnknownMediaUptoCardSaid : Prop := Claim7.holds Tryz.pinned (.plain (OpenSpec.upto unknownMediaSpec)) unknownMediaUptoCard

/-- THE SECOND FORM's CARD OF 'tidegatelaw20.UnknownTags'. -/
def unknownTagsUptoCard : Claim7 := { stood := { row := unknownTagsUptoRow, standIns := [], harness := (true, "e49a67eea1a09b94410143121797750ae9f42e8a50bb9fc5c8b49918299b6630"), looks := true }, kinds := [], alts := [], laidByText := true, laidKinds := [.data, .pinned], laidTests := true, laidLooks := .later }
def UnknownTagsUptoCardSaid : Prop := Claim7.holds Tryz.pinned (.plain (OpenSpec.upto unknownTagsSpec)) unknownTagsUptoCard
end Rows
end Go.Proofs.YtjaockmbnjflaaaGreatDoor

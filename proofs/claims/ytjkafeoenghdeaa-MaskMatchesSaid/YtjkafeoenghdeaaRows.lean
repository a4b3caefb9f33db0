/-
  No cell of these rows narrows 'for every input' (looked for: loops, veiled, ifaces, maps, wideKeys, modest, calm, conditions, laid).
  DERIVED. THE GIVEN ROWS OF THIS SEAT. 3 by the template 'for every input the law returns true; each argument reads behind the call as it read before'; 0 by the template 'total and deterministic' (their statements: YtjkafeoenghdeaaTotals.lean).
  GIVEN WITH THE SEED: the statements are not yours to turn. If you find one false, say at which input.
  Laid BY PROGRAM, IN A SANDBOX (cutbox-rows.mjs): the forced cells as the released guide's own fill.sh prints them over the translation c522a0af8dd0f6b0… (all of the seat's roots in one cut). By AI agents, Wed Nov 11 2026. No macro, syntax, notation, axiom, sorry.
-/
import Derived.Test.YtjkafeoenghdeaaChecked
import GoSem.Claim
import GoSem.ClaimJoined
import GoSem.ClaimMapViews
import Derived.JoinedTies
import Derived.KernelRfl
namespace Go.Proofs.Ytjkafeoenghdeaa
/- THE CELL 'sum', in the pinned program and in every row, IS THE sha256 OF THE DUMP (.gsa) THAT YtjkafeoenghdeaaProg.lean LOADS. Nothing in Lean hashes anything: it is a label: what it is worth is what the hold of that sum in a sandbox is worth. -/
noncomputable def Try.pinned : Pinned := { name := "ytjkafeoenghdeaa", sum := "c522a0af8dd0f6b04848ca7f7ce41e547af35a7c93c426e2cf655d8c82247b07", checked := Try.checked }
namespace Rows
def none {H : Type} : Left H := { results := [], args := [] }

/-- 'tidegatelaw06.MaskMatches': WHATEVER THE INPUT: true; the input reads as it did. -/
def maskMatchesSpec : ChangeSpec := { name := "maskMatches", fn := fun _ => fun
  | [d1, d2, d3] => { results := [.lit (.bool true)], args := [d1, d2, d3] }
  | _ => none }
def maskMatchesRow : OpenClaim := { program := "ytjkafeoenghdeaa", sum := "c522a0af8dd0f6b04848ca7f7ce41e547af35a7c93c426e2cf655d8c82247b07", func := "tidegate/tidegatelaw06.MaskMatches", spec := "maskMatches", unfollowed := true, recurses := true, apart := false }
def MaskMatchesSaid : Prop := maskMatchesRow.holds Try.pinned (OpenSpec.ofChange maskMatchesSpec)

/-- ITS FALSE NEIGHBOUR: 'it returns false'. Refute it at one input. -/
def maskMatchesWrong : ChangeSpec := { name := "maskMatches", fn := fun _ => fun
  | [d1, d2, d3] => { results := [.lit (.bool false)], args := [d1, d2, d3] }
  | _ => none }
def MaskMatchesWrongFalsely : Prop := maskMatchesRow.holds Try.pinned (OpenSpec.ofChange maskMatchesWrong)

/-- 'tidegatelaw06.MaskFirst': WHATEVER THE INPUT: true; the input reads as it did. -/
def maskFirstSpec : ChangeSpec := { name := "maskFirst", fn := fun _ => fun
  | [d1, d2] => { results := [.lit (.bool true)], args := [d1, d2] }
  | _ => none }
def maskFirstRow : OpenClaim := { program := "ytjkafeoenghdeaa", sum := "c522a0af8dd0f6b04848ca7f7ce41e547af35a7c93c426e2cf655d8c82247b07", func := "tidegate/tidegatelaw06.MaskFirst", spec := "maskFirst", unfollowed := true, recurses := true, apart := false }
def MaskFirstSaid : Prop := maskFirstRow.holds Try.pinned (OpenSpec.ofChange maskFirstSpec)

/-- ITS FALSE NEIGHBOUR: 'it returns false'. Refute it at one input. -/
def maskFirstWrong : ChangeSpec := { name := "maskFirst", fn := fun _ => fun
  | [d1, d2] => { results := [.lit (.bool false)], args := [d1, d2] }
  | _ => none }
def MaskFirstWrongFalsely : Prop := maskFirstRow.holds Try.pinned (OpenSpec.ofChange maskFirstWrong)

/-- 'tidegatelaw06.MaskTags': WHATEVER THE INPUT: true; the input reads as it did. -/
def maskTagsSpec : ChangeSpec := { name := "maskTags", fn := fun _ => fun
  | [d1, d2, d3] => { results := [.lit (.bool true)], args := [d1, d2, d3] }
  | _ => none }
def maskTagsRow : OpenClaim := { program := "ytjkafeoenghdeaa", sum := "c522a0af8dd0f6b04848ca7f7ce41e547af35a7c93c426e2cf655d8c82247b07", func := "tidegate/tidegatelaw06.MaskTags", spec := "maskTags", unfollowed := true, recurses := true, apart := false }
def MaskTagsSaid : Prop := maskTagsRow.holds Try.pinned (OpenSpec.ofChange maskTagsSpec)

/-- ITS FALSE NEIGHBOUR: 'it returns false'. Refute it at one input. -/
def maskTagsWrong : ChangeSpec := { name := "maskTags", fn := fun _ => fun
  | [d1, d2, d3] => { results := [.lit (.bool false)], args := [d1, d2, d3] }
  | _ => none }
def MaskTagsWrongFalsely : Prop := maskTagsRow.holds Try.pinned (OpenSpec.ofChange maskTagsWrong)

/- THE SECOND FORM. 'bulk': how many values and letters a reading holds, each counted each time it is reached (what is shared counts as often as it is met; a slice's spare places count too). A statement '..UptoSaid' is the law's where the arguments, and the package variables that the reading takes, are together of bulk at most 1048576: NARROWER than '..Said'. Prove '..Said' where nothing that the law and all that it calls make is longer than what came in: it says more and counts as full. Else prove '..UptoSaid'. A law counts once. -/
mutual
def uptoBulk {H : Type} : DataW H → Nat
  | .lit (.string bytes) => bytes.length + 1
  | .lit _ => 1
  | .nil => 1
  | .ptr d => uptoBulk d + 1
  | .slice elems spare => uptoBulkAll elems + uptoBulkAll spare + 1
  | .agg parts => uptoBulkAll parts + 1
  | .iface _ d => uptoBulk d + 1
  | .map entries => uptoBulkEntries entries + 1
  | .held _ => 1
def uptoBulkAll {H : Type} : List (DataW H) → Nat
  | [] => 0
  | d :: r => uptoBulk d + uptoBulkAll r
def uptoBulkEntries {H : Type} : List (Lit × DataW H) → Nat
  | [] => 0
  | x :: r => uptoBulkEntry x + uptoBulkEntries r
def uptoBulkEntry {H : Type} : Lit × DataW H → Nat
  | (.string bytes, d) => bytes.length + uptoBulk d + 1
  | (_, d) => uptoBulk d + 1
 end
def uptoSmall : (H : Type) → List (DataW H) → Bool := fun _ ds => decide (uptoBulkAll ds ≤ 1048576)
def OpenSpec.upto (s : _root_.Go.ChangeSpec) : _root_.Go.OpenSpec := { _root_.Go.OpenSpec.ofChange s with cond := some uptoSmall }

/-- 'tidegatelaw06.MaskMatches', WHERE WHAT IT READS IS OF BULK AT MOST 1048576: true; the input reads as it did. -/
def maskMatchesUptoRow : OpenClaim := { program := "ytjkafeoenghdeaa", sum := "c522a0af8dd0f6b04848ca7f7ce41e547af35a7c93c426e2cf655d8c82247b07", func := "tidegate/tidegatelaw06.MaskMatches", spec := "maskMatches", unfollowed := true, recurses := true, apart := false, narrowed := true }
def MaskMatchesUptoSaid : Prop := maskMatchesUptoRow.holds Try.pinned (OpenSpec.upto maskMatchesSpec)

/-- 'tidegatelaw06.MaskFirst', WHERE WHAT IT READS IS OF BULK AT MOST 1048576: true; the input reads as it did. -/
def maskFirstUptoRow : OpenClaim := { program := "ytjkafeoenghdeaa", sum := "c522a0af8dd0f6b04848ca7f7ce41e547af35a7c93c426e2cf655d8c82247b07", func := "tidegate/tidegatelaw06.MaskFirst", spec := "maskFirst", unfollowed := true, recurses := true, apart := false, narrowed := true }
def MaskFirstUptoSaid : Prop := maskFirstUptoRow.holds Try.pinned (OpenSpec.upto maskFirstSpec)

/-- 'tidegatelaw06.MaskTags', WHERE WHAT IT READS IS OF BULK AT MOST 1048576: true; the input reads as it did. -/
def maskTagsUptoRow : OpenClaim := { program := "ytjkafeoenghdeaa", sum := "c522a0af8dd0f6b04848ca7f7ce41e547af35a7c93c426e2cf655d8c82247b07", func := "tidegate/tidegatelaw06.MaskTags", spec := "maskTags", unfollowed := true, recurses := true, apart := false, narrowed := true }
def MaskTagsUptoSaid : Prop := maskTagsUptoRow.holds Try.pinned (OpenSpec.upto maskTagsSpec)

end Rows
end Go.Proofs.Ytjkafeoenghdeaa

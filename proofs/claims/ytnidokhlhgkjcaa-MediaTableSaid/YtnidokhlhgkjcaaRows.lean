/-
  No cell of these rows narrows 'for every input' (looked for: loops, veiled, ifaces, maps, wideKeys, modest, calm, conditions, laid).
  DERIVED. THE GIVEN ROWS OF THIS SEAT. 4 by the template 'for every input the law returns true; each argument reads behind the call as it read before'; 0 by the template 'total and deterministic' (their statements: YtnidokhlhgkjcaaTotals.lean).
  GIVEN WITH THE SEED: the statements are not yours to turn. If you find one false, say at which input.
  Laid BY PROGRAM, IN A SANDBOX (cutbox-rows.mjs): the forced cells as the released guide's own fill.sh prints them over the translation 7ea5e820086b4b2d… (all of the seat's roots in one cut). By AI agents, Wed Nov 11 2026. No macro, syntax, notation, axiom, sorry.
-/
import Derived.Test.YtnidokhlhgkjcaaChecked
import GoSem.Claim
import GoSem.ClaimJoined
import GoSem.ClaimMapViews
import Derived.JoinedTies
import Derived.KernelRfl
namespace Go.Proofs.Ytnidokhlhgkjcaa
/- THE CELL 'sum', in the pinned program and in every row, IS THE sha256 OF THE DUMP (.gsa) THAT YtnidokhlhgkjcaaProg.lean LOADS. Nothing in Lean hashes anything: it is a label: what it is worth is what the hold of that sum in a sandbox is worth. -/
noncomputable def Try.pinned : Pinned := { name := "ytnidokhlhgkjcaa", sum := "7ea5e820086b4b2d37f383c308b73077c30d85fb986cf2ef288052e0e743f7a4", checked := Try.checked }
namespace Rows
def none {H : Type} : Left H := { results := [], args := [] }

/-- 'tidegatelaw14.MediaTypes': WHATEVER THE INPUT: true; the input reads as it did. -/
def mediaTypesSpec : ChangeSpec := { name := "mediaTypes", fn := fun _ => fun
  | [d] => { results := [.lit (.bool true)], args := [d] }
  | _ => none }
def mediaTypesRow : OpenClaim := { program := "ytnidokhlhgkjcaa", sum := "7ea5e820086b4b2d37f383c308b73077c30d85fb986cf2ef288052e0e743f7a4", func := "tidegate/tidegatelaw14.MediaTypes", spec := "mediaTypes", unfollowed := true, recurses := true, apart := false }
def MediaTypesSaid : Prop := mediaTypesRow.holds Try.pinned (OpenSpec.ofChange mediaTypesSpec)

/-- ITS FALSE NEIGHBOUR: 'it returns false'. Refute it at one input. -/
def mediaTypesWrong : ChangeSpec := { name := "mediaTypes", fn := fun _ => fun
  | [d] => { results := [.lit (.bool false)], args := [d] }
  | _ => none }
def MediaTypesWrongFalsely : Prop := mediaTypesRow.holds Try.pinned (OpenSpec.ofChange mediaTypesWrong)

/-- 'tidegatelaw14.MediaTable': WHATEVER THE INPUT: true; the input reads as it did. -/
def mediaTableSpec : ChangeSpec := { name := "mediaTable", fn := fun _ => fun
  | [d1, d2] => { results := [.lit (.bool true)], args := [d1, d2] }
  | _ => none }
def mediaTableRow : OpenClaim := { program := "ytnidokhlhgkjcaa", sum := "7ea5e820086b4b2d37f383c308b73077c30d85fb986cf2ef288052e0e743f7a4", func := "tidegate/tidegatelaw14.MediaTable", spec := "mediaTable", unfollowed := true, recurses := true, apart := false }
def MediaTableSaid : Prop := mediaTableRow.holds Try.pinned (OpenSpec.ofChange mediaTableSpec)

/-- ITS FALSE NEIGHBOUR: 'it returns false'. Refute it at one input. -/
def mediaTableWrong : ChangeSpec := { name := "mediaTable", fn := fun _ => fun
  | [d1, d2] => { results := [.lit (.bool false)], args := [d1, d2] }
  | _ => none }
def MediaTableWrongFalsely : Prop := mediaTableRow.holds Try.pinned (OpenSpec.ofChange mediaTableWrong)

/-- 'tidegatelaw14.MediaApart': WHATEVER THE INPUT: true; the input reads as it did. -/
def mediaApartSpec : ChangeSpec := { name := "mediaApart", fn := fun _ => fun
  | [d] => { results := [.lit (.bool true)], args := [d] }
  | _ => none }
def mediaApartRow : OpenClaim := { program := "ytnidokhlhgkjcaa", sum := "7ea5e820086b4b2d37f383c308b73077c30d85fb986cf2ef288052e0e743f7a4", func := "tidegate/tidegatelaw14.MediaApart", spec := "mediaApart", unfollowed := true, recurses := true, apart := false }
def MediaApartSaid : Prop := mediaApartRow.holds Try.pinned (OpenSpec.ofChange mediaApartSpec)

/-- ITS FALSE NEIGHBOUR: 'it returns false'. Refute it at one input. -/
def mediaApartWrong : ChangeSpec := { name := "mediaApart", fn := fun _ => fun
  | [d] => { results := [.lit (.bool false)], args := [d] }
  | _ => none }
def MediaApartWrongFalsely : Prop := mediaApartRow.holds Try.pinned (OpenSpec.ofChange mediaApartWrong)

/-- 'tidegatelaw14.MediaChunks': WHATEVER THE INPUT: true; the input reads as it did. -/
def mediaChunksSpec : ChangeSpec := { name := "mediaChunks", fn := fun _ => fun
  | [d] => { results := [.lit (.bool true)], args := [d] }
  | _ => none }
def mediaChunksRow : OpenClaim := { program := "ytnidokhlhgkjcaa", sum := "7ea5e820086b4b2d37f383c308b73077c30d85fb986cf2ef288052e0e743f7a4", func := "tidegate/tidegatelaw14.MediaChunks", spec := "mediaChunks", unfollowed := true, recurses := true, apart := false }
def MediaChunksSaid : Prop := mediaChunksRow.holds Try.pinned (OpenSpec.ofChange mediaChunksSpec)

/-- ITS FALSE NEIGHBOUR: 'it returns false'. Refute it at one input. -/
def mediaChunksWrong : ChangeSpec := { name := "mediaChunks", fn := fun _ => fun
  | [d] => { results := [.lit (.bool false)], args := [d] }
  | _ => none }
def MediaChunksWrongFalsely : Prop := mediaChunksRow.holds Try.pinned (OpenSpec.ofChange mediaChunksWrong)

/- THE SECOND FORM. 'bulk': how many values and letters a reading holds, each counted each time it is reached (what is shared counts as often as it is met; a slice's spare places count too). A statement '..UptoSaid' is the law's where the arguments, and the package variables that the reading takes, are together of bulk at most 1048576: NARROWER than '..Said'. Prove '..Said' where nothing that the law and all that it calls make is longer than what came in: it says more and counts as full. Else prove '..UptoSaid'. A law counts once. -/
mutual
def uptoBulk {H : Type} : DataW H → Nat
  | .lit (.string bytes) => bytes.length + 1
  | .lit _ => 1
  | .nil => 1
  | .ptr d => uptoBulk d + 1
  | .slice elems spare => uptoBulkAll elems + uptoBulkAll spare + 1
  | .agg parts => uptoBulkAll parts + 1
  | .iface _ d => uptoBulk d + 1
  | .map entries => uptoBulkEntries entries + 1
  | .held _ => 1
def uptoBulkAll {H : Type} : List (DataW H) → Nat
  | [] => 0
  | d :: r => uptoBulk d + uptoBulkAll r
def uptoBulkEntries {H : Type} : List (Lit × DataW H) → Nat
  | [] => 0
  | x :: r => uptoBulkEntry x + uptoBulkEntries r
def uptoBulkEntry {H : Type} : Lit × DataW H → Nat
  | (.string bytes, d) => bytes.length + uptoBulk d + 1
  | (_, d) => uptoBulk d + 1
 end
def uptoSmall : (H : Type) → List (DataW H) → Bool := fun _ ds => decide (uptoBulkAll ds ≤ 1048576)
def OpenSpec.upto (s : _root_.Go.ChangeSpec) : _root_.Go.OpenSpec := { _root_.Go.OpenSpec.ofChange s with cond := some uptoSmall }

/-- 'tidegatelaw14.MediaTypes', WHERE WHAT IT READS IS OF BULK AT MOST 1048576: true; the input reads as it did. -/
def mediaTypesUptoRow : OpenClaim := { program := "ytnidokhlhgkjcaa", sum := "7ea5e820086b4b2d37f383c308b73077c30d85fb986cf2ef288052e0e743f7a4", func := "tidegate/tidegatelaw14.MediaTypes", spec := "mediaTypes", unfollowed := true, recurses := true, apart := false, narrowed := true }
def MediaTypesUptoSaid : Prop := mediaTypesUptoRow.holds Try.pinned (OpenSpec.upto mediaTypesSpec)

/-- 'tidegatelaw14.MediaTable', WHERE WHAT IT READS IS OF BULK AT MOST 1048576: true; the input reads as it did. -/
def mediaTableUptoRow : OpenClaim := { program := "ytnidokhlhgkjcaa", sum := "7ea5e820086b4b2d37f383c308b73077c30d85fb986cf2ef288052e0e743f7a4", func := "tidegate/tidegatelaw14.MediaTable", spec := "mediaTable", unfollowed := true, recurses := true, apart := false, narrowed := true }
def MediaTableUptoSaid : Prop := mediaTableUptoRow.holds Try.pinned (OpenSpec.upto mediaTableSpec)

/-- 'tidegatelaw14.MediaApart', WHERE WHAT IT READS IS OF BULK AT MOST 1048576: true; the input reads as it did. -/
def mediaApartUptoRow : OpenClaim := { program := "ytnidokhlhgkjcaa", sum := "7ea5e820086b4b2d37f383c308b73077c30d85fb986cf2ef288052e0e743f7a4", func := "tidegate/tidegatelaw14.MediaApart", spec := "mediaApart", unfollowed := true, recurses := true, apart := false, narrowed := true }
def MediaApartUptoSaid : Prop := mediaApartUptoRow.holds Try.pinned (OpenSpec.upto mediaApartSpec)

/-- 'tidegatelaw14.MediaChunks', WHERE WHAT IT READS IS OF BULK AT MOST 1048576: true; the input reads as it did. -/
def mediaChunksUptoRow : OpenClaim := { program := "ytnidokhlhgkjcaa", sum := "7ea5e820086b4b2d37f383c308b73077c30d85fb986cf2ef288052e0e743f7a4", func := "tidegate/tidegatelaw14.MediaChunks", spec := "mediaChunks", unfollowed := true, recurses := true, apart := false, narrowed := true }
def MediaChunksUptoSaid : Prop := mediaChunksUptoRow.holds Try.pinned (OpenSpec.upto mediaChunksSpec)

end Rows
end Go.Proofs.Ytnidokhlhgkjcaa

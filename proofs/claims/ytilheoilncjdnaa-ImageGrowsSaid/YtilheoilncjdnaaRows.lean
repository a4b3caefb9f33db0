/-
  No cell of these rows narrows 'for every input' (looked for: loops, veiled, ifaces, maps, wideKeys, modest, calm, conditions, laid).
  DERIVED. THE GIVEN ROWS OF THIS SEAT. 3 by the template 'for every input the law returns true; each argument reads behind the call as it read before'; 0 by the template 'total and deterministic' (their statements: YtilheoilncjdnaaTotals.lean).
  GIVEN WITH THE SEED: the statements are not yours to turn. If you find one false, say at which input.
  Laid BY PROGRAM, IN A SANDBOX (cutbox-rows.mjs): the forced cells as the released guide's own fill.sh prints them over the translation 70a3f841c51bcc43… (all of the seat's roots in one cut). By AI agents, Wed Nov 11 2026. No macro, syntax, notation, axiom, sorry.
-/
import Derived.Test.YtilheoilncjdnaaChecked
import GoSem.Claim
import GoSem.ClaimJoined
import GoSem.ClaimMapViews
import Derived.JoinedTies
import Derived.KernelRfl
namespace Go.Proofs.Ytilheoilncjdnaa
/- THE CELL 'sum', in the pinned program and in every row, IS THE sha256 OF THE DUMP (.gsa) THAT YtilheoilncjdnaaProg.lean LOADS. Nothing in Lean hashes anything: it is a label: what it is worth is what the hold of that sum in a sandbox is worth. -/
noncomputable def Try.pinned : Pinned := { name := "ytilheoilncjdnaa", sum := "70a3f841c51bcc4322dd6aa30f0e14c93ceac15547ac294596b278e87c6b4fd9", checked := Try.checked }
namespace Rows
def none {H : Type} : Left H := { results := [], args := [] }

/-- 'tidegatelaw13.ImageTypes': WHATEVER THE INPUT: true; the input reads as it did. -/
def imageTypesSpec : ChangeSpec := { name := "imageTypes", fn := fun _ => fun
  | [d] => { results := [.lit (.bool true)], args := [d] }
  | _ => none }
def imageTypesRow : OpenClaim := { program := "ytilheoilncjdnaa", sum := "70a3f841c51bcc4322dd6aa30f0e14c93ceac15547ac294596b278e87c6b4fd9", func := "tidegate/tidegatelaw13.ImageTypes", spec := "imageTypes", unfollowed := true, recurses := true, apart := false }
def ImageTypesSaid : Prop := imageTypesRow.holds Try.pinned (OpenSpec.ofChange imageTypesSpec)

/-- ITS FALSE NEIGHBOUR: 'it returns false'. Refute it at one input. -/
def imageTypesWrong : ChangeSpec := { name := "imageTypes", fn := fun _ => fun
  | [d] => { results := [.lit (.bool false)], args := [d] }
  | _ => none }
def ImageTypesWrongFalsely : Prop := imageTypesRow.holds Try.pinned (OpenSpec.ofChange imageTypesWrong)

/-- 'tidegatelaw13.ImageTable': WHATEVER THE INPUT: true; the input reads as it did. -/
def imageTableSpec : ChangeSpec := { name := "imageTable", fn := fun _ => fun
  | [d1, d2] => { results := [.lit (.bool true)], args := [d1, d2] }
  | _ => none }
def imageTableRow : OpenClaim := { program := "ytilheoilncjdnaa", sum := "70a3f841c51bcc4322dd6aa30f0e14c93ceac15547ac294596b278e87c6b4fd9", func := "tidegate/tidegatelaw13.ImageTable", spec := "imageTable", unfollowed := true, recurses := true, apart := false }
def ImageTableSaid : Prop := imageTableRow.holds Try.pinned (OpenSpec.ofChange imageTableSpec)

/-- ITS FALSE NEIGHBOUR: 'it returns false'. Refute it at one input. -/
def imageTableWrong : ChangeSpec := { name := "imageTable", fn := fun _ => fun
  | [d1, d2] => { results := [.lit (.bool false)], args := [d1, d2] }
  | _ => none }
def ImageTableWrongFalsely : Prop := imageTableRow.holds Try.pinned (OpenSpec.ofChange imageTableWrong)

/-- 'tidegatelaw13.ImageGrows': WHATEVER THE INPUT: true; the input reads as it did. -/
def imageGrowsSpec : ChangeSpec := { name := "imageGrows", fn := fun _ => fun
  | [d1, d2] => { results := [.lit (.bool true)], args := [d1, d2] }
  | _ => none }
def imageGrowsRow : OpenClaim := { program := "ytilheoilncjdnaa", sum := "70a3f841c51bcc4322dd6aa30f0e14c93ceac15547ac294596b278e87c6b4fd9", func := "tidegate/tidegatelaw13.ImageGrows", spec := "imageGrows", unfollowed := true, recurses := true, apart := false }
def ImageGrowsSaid : Prop := imageGrowsRow.holds Try.pinned (OpenSpec.ofChange imageGrowsSpec)

/-- ITS FALSE NEIGHBOUR: 'it returns false'. Refute it at one input. -/
def imageGrowsWrong : ChangeSpec := { name := "imageGrows", fn := fun _ => fun
  | [d1, d2] => { results := [.lit (.bool false)], args := [d1, d2] }
  | _ => none }
def ImageGrowsWrongFalsely : Prop := imageGrowsRow.holds Try.pinned (OpenSpec.ofChange imageGrowsWrong)

/- THE SECOND FORM. 'bulk': how many values and letters a reading holds, each counted each time it is reached (what is shared counts as often as it is met; a slice's spare places count too). A statement '..UptoSaid' is the law's where the arguments, and the package variables that the reading takes, are together of bulk at most 1048576: NARROWER than '..Said'. Prove '..Said' where nothing that the law and all that it calls make is longer than what came in: it says more and counts as full. Else prove '..UptoSaid'. A law counts once. -/
mutual
def uptoBulk {H : Type} : DataW H → Nat
  | .lit (.string bytes) => bytes.length + 1
  | .lit _ => 1
  | .nil => 1
  | .ptr d => uptoBulk d + 1
  | .slice elems spare => uptoBulkAll elems + uptoBulkAll spare + 1
  | .agg parts => uptoBulkAll parts + 1
  | .iface _ d => uptoBulk d + 1
  | .map entries => uptoBulkEntries entries + 1
  | .held _ => 1
def uptoBulkAll {H : Type} : List (DataW H) → Nat
  | [] => 0
  | d :: r => uptoBulk d + uptoBulkAll r
def uptoBulkEntries {H : Type} : List (Lit × DataW H) → Nat
  | [] => 0
  | x :: r => uptoBulkEntry x + uptoBulkEntries r
def uptoBulkEntry {H : Type} : Lit × DataW H → Nat
  | (.string bytes, d) => bytes.length + uptoBulk d + 1
  | (_, d) => uptoBulk d + 1
 end
def uptoSmall : (H : Type) → List (DataW H) → Bool := fun _ ds => decide (uptoBulkAll ds ≤ 1048576)
def OpenSpec.upto (s : _root_.Go.ChangeSpec) : _root_.Go.OpenSpec := { _root_.Go.OpenSpec.ofChange s with cond := some uptoSmall }

/-- 'tidegatelaw13.ImageTypes', WHERE WHAT IT READS IS OF BULK AT MOST 1048576: true; the input reads as it did. -/
def imageTypesUptoRow : OpenClaim := { program := "ytilheoilncjdnaa", sum := "70a3f841c51bcc4322dd6aa30f0e14c93ceac15547ac294596b278e87c6b4fd9", func := "tidegate/tidegatelaw13.ImageTypes", spec := "imageTypes", unfollowed := true, recurses := true, apart := false, narrowed := true }
def ImageTypesUptoSaid : Prop := imageTypesUptoRow.holds Try.pinned (OpenSpec.upto imageTypesSpec)

/-- 'tidegatelaw13.ImageTable', WHERE WHAT IT READS IS OF BULK AT MOST 1048576: true; the input reads as it did. -/
def imageTableUptoRow : OpenClaim := { program := "ytilheoilncjdnaa", sum := "70a3f841c51bcc4322dd6aa30f0e14c93ceac15547ac294596b278e87c6b4fd9", func := "tidegate/tidegatelaw13.ImageTable", spec := "imageTable", unfollowed := true, recurses := true, apart := false, narrowed := true }
def ImageTableUptoSaid : Prop := imageTableUptoRow.holds Try.pinned (OpenSpec.upto imageTableSpec)

/-- 'tidegatelaw13.ImageGrows', WHERE WHAT IT READS IS OF BULK AT MOST 1048576: true; the input reads as it did. -/
def imageGrowsUptoRow : OpenClaim := { program := "ytilheoilncjdnaa", sum := "70a3f841c51bcc4322dd6aa30f0e14c93ceac15547ac294596b278e87c6b4fd9", func := "tidegate/tidegatelaw13.ImageGrows", spec := "imageGrows", unfollowed := true, recurses := true, apart := false, narrowed := true }
def ImageGrowsUptoSaid : Prop := imageGrowsUptoRow.holds Try.pinned (OpenSpec.upto imageGrowsSpec)

end Rows
end Go.Proofs.Ytilheoilncjdnaa

/-
  No cell of these rows narrows 'for every input' (looked for: loops, veiled, ifaces, maps, wideKeys, modest, calm, conditions, laid).
  DERIVED. THE GIVEN ROWS OF THIS SEAT. 3 by the template 'for every input the law returns true; each argument reads behind the call as it read before'; 0 by the template 'total and deterministic' (their statements: YtljflkaknhekcaaTotals.lean).
  GIVEN WITH THE SEED: the statements are not yours to turn. If you find one false, say at which input.
  Laid BY PROGRAM, IN A SANDBOX (cutbox-rows.mjs): the forced cells as the released guide's own fill.sh prints them over the translation 9161855696fd767b… (all of the seat's roots in one cut). By AI agents, Wed Nov 11 2026. No macro, syntax, notation, axiom, sorry.
-/
import Derived.Test.YtljflkaknhekcaaChecked
import GoSem.Claim
import GoSem.ClaimJoined
import GoSem.ClaimMapViews
import Derived.JoinedTies
import Derived.KernelRfl
namespace Go.Proofs.Ytljflkaknhekcaa
/- THE CELL 'sum', in the pinned program and in every row, IS THE sha256 OF THE DUMP (.gsa) THAT YtljflkaknhekcaaProg.lean LOADS. Nothing in Lean hashes anything: it is a label: what it is worth is what the hold of that sum in a sandbox is worth. -/
noncomputable def Try.pinned : Pinned := { name := "ytljflkaknhekcaa", sum := "9161855696fd767bce2d577654ee421fb4640b26fec4316ca211773401bdc907", checked := Try.checked }
namespace Rows
def none {H : Type} : Left H := { results := [], args := [] }

/-- 'tidegatelaw12.GroupKinds': WHATEVER THE INPUT: true; the input reads as it did. -/
def groupKindsSpec : ChangeSpec := { name := "groupKinds", fn := fun _ => fun
  | [d] => { results := [.lit (.bool true)], args := [d] }
  | _ => none }
def groupKindsRow : OpenClaim := { program := "ytljflkaknhekcaa", sum := "9161855696fd767bce2d577654ee421fb4640b26fec4316ca211773401bdc907", func := "tidegate/tidegatelaw12.GroupKinds", spec := "groupKinds", apart := false }
def GroupKindsSaid : Prop := groupKindsRow.holds Try.pinned (OpenSpec.ofChange groupKindsSpec)

/-- ITS FALSE NEIGHBOUR: 'it returns false'. Refute it at one input. -/
def groupKindsWrong : ChangeSpec := { name := "groupKinds", fn := fun _ => fun
  | [d] => { results := [.lit (.bool false)], args := [d] }
  | _ => none }
def GroupKindsWrongFalsely : Prop := groupKindsRow.holds Try.pinned (OpenSpec.ofChange groupKindsWrong)

/-- 'tidegatelaw12.GroupMedia': WHATEVER THE INPUT: true; the input reads as it did. -/
def groupMediaSpec : ChangeSpec := { name := "groupMedia", fn := fun _ => fun
  | [d] => { results := [.lit (.bool true)], args := [d] }
  | _ => none }
def groupMediaRow : OpenClaim := { program := "ytljflkaknhekcaa", sum := "9161855696fd767bce2d577654ee421fb4640b26fec4316ca211773401bdc907", func := "tidegate/tidegatelaw12.GroupMedia", spec := "groupMedia", apart := false }
def GroupMediaSaid : Prop := groupMediaRow.holds Try.pinned (OpenSpec.ofChange groupMediaSpec)

/-- ITS FALSE NEIGHBOUR: 'it returns false'. Refute it at one input. -/
def groupMediaWrong : ChangeSpec := { name := "groupMedia", fn := fun _ => fun
  | [d] => { results := [.lit (.bool false)], args := [d] }
  | _ => none }
def GroupMediaWrongFalsely : Prop := groupMediaRow.holds Try.pinned (OpenSpec.ofChange groupMediaWrong)

/-- 'tidegatelaw12.GroupLists': WHATEVER THE INPUT: true; the input reads as it did. -/
def groupListsSpec : ChangeSpec := { name := "groupLists", fn := fun _ => fun
  | [d] => { results := [.lit (.bool true)], args := [d] }
  | _ => none }
def groupListsRow : OpenClaim := { program := "ytljflkaknhekcaa", sum := "9161855696fd767bce2d577654ee421fb4640b26fec4316ca211773401bdc907", func := "tidegate/tidegatelaw12.GroupLists", spec := "groupLists", apart := false }
def GroupListsSaid : Prop := groupListsRow.holds Try.pinned (OpenSpec.ofChange groupListsSpec)

/-- ITS FALSE NEIGHBOUR: 'it returns false'. Refute it at one input. -/
def groupListsWrong : ChangeSpec := { name := "groupLists", fn := fun _ => fun
  | [d] => { results := [.lit (.bool false)], args := [d] }
  | _ => none }
def GroupListsWrongFalsely : Prop := groupListsRow.holds Try.pinned (OpenSpec.ofChange groupListsWrong)

/- THE SECOND FORM. 'bulk': how many values and letters a reading holds, each counted each time it is reached (what is shared counts as often as it is met; a slice's spare places count too). A statement '..UptoSaid' is the law's where the arguments, and the package variables that the reading takes, are together of bulk at most 1048576: NARROWER than '..Said'. Prove '..Said' where nothing that the law and all that it calls make is longer than what came in: it says more and counts as full. Else prove '..UptoSaid'. A law counts once. -/
mutual
def uptoBulk {H : Type} : DataW H → Nat
  | .lit (.string bytes) => bytes.length + 1
  | .lit _ => 1
  | .nil => 1
  | .ptr d => uptoBulk d + 1
  | .slice elems spare => uptoBulkAll elems + uptoBulkAll spare + 1
  | .agg parts => uptoBulkAll parts + 1
  | .iface _ d => uptoBulk d + 1
  | .map entries => uptoBulkEntries entries + 1
  | .held _ => 1
def uptoBulkAll {H : Type} : List (DataW H) → Nat
  | [] => 0
  | d :: r => uptoBulk d + uptoBulkAll r
def uptoBulkEntries {H : Type} : List (Lit × DataW H) → Nat
  | [] => 0
  | x :: r => uptoBulkEntry x + uptoBulkEntries r
def uptoBulkEntry {H : Type} : Lit × DataW H → Nat
  | (.string bytes, d) => bytes.length + uptoBulk d + 1
  | (_, d) => uptoBulk d + 1
 end
def uptoSmall : (H : Type) → List (DataW H) → Bool := fun _ ds => decide (uptoBulkAll ds ≤ 1048576)
def OpenSpec.upto (s : _root_.Go.ChangeSpec) : _root_.Go.OpenSpec := { _root_.Go.OpenSpec.ofChange s with cond := some uptoSmall }

/-- 'tidegatelaw12.GroupKinds', WHERE WHAT IT READS IS OF BULK AT MOST 1048576: true; the input reads as it did. -/
def groupKindsUptoRow : OpenClaim := { program := "ytljflkaknhekcaa", sum := "9161855696fd767bce2d577654ee421fb4640b26fec4316ca211773401bdc907", func := "tidegate/tidegatelaw12.GroupKinds", spec := "groupKinds", apart := false, narrowed := true }
def GroupKindsUptoSaid : Prop := groupKindsUptoRow.holds Try.pinned (OpenSpec.upto groupKindsSpec)

/-- 'tidegatelaw12.GroupMedia', WHERE WHAT IT READS IS OF BULK AT MOST 1048576: true; the input reads as it did. -/
def groupMediaUptoRow : OpenClaim := { program := "ytljflkaknhekcaa", sum := "9161855696fd767bce2d577654ee421fb4640b26fec4316ca211773401bdc907", func := "tidegate/tidegatelaw12.GroupMedia", spec := "groupMedia", apart := false, narrowed := true }
def GroupMediaUptoSaid : Prop := groupMediaUptoRow.holds Try.pinned (OpenSpec.upto groupMediaSpec)

/-- 'tidegatelaw12.GroupLists', WHERE WHAT IT READS IS OF BULK AT MOST 1048576: true; the input reads as it did. -/
def groupListsUptoRow : OpenClaim := { program := "ytljflkaknhekcaa", sum := "9161855696fd767bce2d577654ee421fb4640b26fec4316ca211773401bdc907", func := "tidegate/tidegatelaw12.GroupLists", spec := "groupLists", apart := false, narrowed := true }
def GroupListsUptoSaid : Prop := groupListsUptoRow.holds Try.pinned (OpenSpec.upto groupListsSpec)

end Rows
end Go.Proofs.Ytljflkaknhekcaa

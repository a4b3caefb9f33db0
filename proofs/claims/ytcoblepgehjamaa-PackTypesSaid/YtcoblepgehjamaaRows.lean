/-
  No cell of these rows narrows 'for every input' (looked for: loops, veiled, ifaces, maps, wideKeys, modest, calm, conditions, laid).
  DERIVED. THE GIVEN ROWS OF THIS SEAT. 4 by the template 'for every input the law returns true; each argument reads behind the call as it read before'; 0 by the template 'total and deterministic' (their statements: YtcoblepgehjamaaTotals.lean).
  GIVEN WITH THE SEED: the statements are not yours to turn. If you find one false, say at which input.
  Laid BY PROGRAM, IN A SANDBOX (cutbox-rows.mjs): the forced cells as the released guide's own fill.sh prints them over the translation 84346ea48a6b8763… (all of the seat's roots in one cut). By AI agents, Wed Nov 11 2026. No macro, syntax, notation, axiom, sorry.
-/
import Derived.Test.YtcoblepgehjamaaChecked
import GoSem.Claim
import GoSem.ClaimJoined
import GoSem.ClaimMapViews
import Derived.JoinedTies
import Derived.KernelRfl
namespace Go.Proofs.Ytcoblepgehjamaa
/- THE CELL 'sum', in the pinned program and in every row, IS THE sha256 OF THE DUMP (.gsa) THAT YtcoblepgehjamaaProg.lean LOADS. Nothing in Lean hashes anything: it is a label: what it is worth is what the hold of that sum in a sandbox is worth. -/
noncomputable def Try.pinned : Pinned := { name := "ytcoblepgehjamaa", sum := "84346ea48a6b876332b8ba0744e43dea0fee43a4f11035891a7e3b5d6c304ed5", checked := Try.checked }
namespace Rows
def none {H : Type} : Left H := { results := [], args := [] }

/-- 'tidegatelaw15.PackTypes': WHATEVER THE INPUT: true; the input reads as it did. -/
def packTypesSpec : ChangeSpec := { name := "packTypes", fn := fun _ => fun
  | [d] => { results := [.lit (.bool true)], args := [d] }
  | _ => none }
def packTypesRow : OpenClaim := { program := "ytcoblepgehjamaa", sum := "84346ea48a6b876332b8ba0744e43dea0fee43a4f11035891a7e3b5d6c304ed5", func := "tidegate/tidegatelaw15.PackTypes", spec := "packTypes", inPlace := ["internal/abi.NoEscape", "internal/bytealg.MakeNoZero"], unfollowed := true, recurses := true, apart := false }
def PackTypesSaid : Prop := packTypesRow.holds Try.pinned (OpenSpec.ofChange packTypesSpec)

/-- ITS FALSE NEIGHBOUR: 'it returns false'. Refute it at one input. -/
def packTypesWrong : ChangeSpec := { name := "packTypes", fn := fun _ => fun
  | [d] => { results := [.lit (.bool false)], args := [d] }
  | _ => none }
def PackTypesWrongFalsely : Prop := packTypesRow.holds Try.pinned (OpenSpec.ofChange packTypesWrong)

/-- 'tidegatelaw15.PackTables': WHATEVER THE INPUT: true; the input reads as it did. -/
def packTablesSpec : ChangeSpec := { name := "packTables", fn := fun _ => fun
  | [d] => { results := [.lit (.bool true)], args := [d] }
  | _ => none }
def packTablesRow : OpenClaim := { program := "ytcoblepgehjamaa", sum := "84346ea48a6b876332b8ba0744e43dea0fee43a4f11035891a7e3b5d6c304ed5", func := "tidegate/tidegatelaw15.PackTables", spec := "packTables", inPlace := ["internal/abi.NoEscape", "internal/bytealg.MakeNoZero"], unfollowed := true, recurses := true, apart := false }
def PackTablesSaid : Prop := packTablesRow.holds Try.pinned (OpenSpec.ofChange packTablesSpec)

/-- ITS FALSE NEIGHBOUR: 'it returns false'. Refute it at one input. -/
def packTablesWrong : ChangeSpec := { name := "packTables", fn := fun _ => fun
  | [d] => { results := [.lit (.bool false)], args := [d] }
  | _ => none }
def PackTablesWrongFalsely : Prop := packTablesRow.holds Try.pinned (OpenSpec.ofChange packTablesWrong)

/-- 'tidegatelaw15.PackMembers': WHATEVER THE INPUT: true; the input reads as it did. -/
def packMembersSpec : ChangeSpec := { name := "packMembers", fn := fun _ => fun
  | [d] => { results := [.lit (.bool true)], args := [d] }
  | _ => none }
def packMembersRow : OpenClaim := { program := "ytcoblepgehjamaa", sum := "84346ea48a6b876332b8ba0744e43dea0fee43a4f11035891a7e3b5d6c304ed5", func := "tidegate/tidegatelaw15.PackMembers", spec := "packMembers", inPlace := ["internal/abi.NoEscape", "internal/bytealg.MakeNoZero"], unfollowed := true, recurses := true, apart := false }
def PackMembersSaid : Prop := packMembersRow.holds Try.pinned (OpenSpec.ofChange packMembersSpec)

/-- ITS FALSE NEIGHBOUR: 'it returns false'. Refute it at one input. -/
def packMembersWrong : ChangeSpec := { name := "packMembers", fn := fun _ => fun
  | [d] => { results := [.lit (.bool false)], args := [d] }
  | _ => none }
def PackMembersWrongFalsely : Prop := packMembersRow.holds Try.pinned (OpenSpec.ofChange packMembersWrong)

/-- 'tidegatelaw15.PackCounts': WHATEVER THE INPUT: true; the input reads as it did. -/
def packCountsSpec : ChangeSpec := { name := "packCounts", fn := fun _ => fun
  | [d] => { results := [.lit (.bool true)], args := [d] }
  | _ => none }
def packCountsRow : OpenClaim := { program := "ytcoblepgehjamaa", sum := "84346ea48a6b876332b8ba0744e43dea0fee43a4f11035891a7e3b5d6c304ed5", func := "tidegate/tidegatelaw15.PackCounts", spec := "packCounts", inPlace := ["internal/abi.NoEscape", "internal/bytealg.MakeNoZero"], unfollowed := true, recurses := true, apart := false }
def PackCountsSaid : Prop := packCountsRow.holds Try.pinned (OpenSpec.ofChange packCountsSpec)

/-- ITS FALSE NEIGHBOUR: 'it returns false'. Refute it at one input. -/
def packCountsWrong : ChangeSpec := { name := "packCounts", fn := fun _ => fun
  | [d] => { results := [.lit (.bool false)], args := [d] }
  | _ => none }
def PackCountsWrongFalsely : Prop := packCountsRow.holds Try.pinned (OpenSpec.ofChange packCountsWrong)

/- THE SECOND FORM. 'bulk': how many values and letters a reading holds, each counted each time it is reached (what is shared counts as often as it is met; a slice's spare places count too). A statement '..UptoSaid' is the law's where the arguments, and the package variables that the reading takes, are together of bulk at most 1048576: NARROWER than '..Said'. Prove '..Said' where nothing that the law and all that it calls make is longer than what came in: it says more and counts as full. Else prove '..UptoSaid'. A law counts once. -/
mutual
def uptoBulk {H : Type} : DataW H → Nat
  | .lit (.string bytes) => bytes.length + 1
  | .lit _ => 1
  | .nil => 1
  | .ptr d => uptoBulk d + 1
  | .slice elems spare => uptoBulkAll elems + uptoBulkAll spare + 1
  | .agg parts => uptoBulkAll parts + 1
  | .iface _ d => uptoBulk d + 1
  | .map entries => uptoBulkEntries entries + 1
  | .held _ => 1
def uptoBulkAll {H : Type} : List (DataW H) → Nat
  | [] => 0
  | d :: r => uptoBulk d + uptoBulkAll r
def uptoBulkEntries {H : Type} : List (Lit × DataW H) → Nat
  | [] => 0
  | x :: r => uptoBulkEntry x + uptoBulkEntries r
def uptoBulkEntry {H : Type} : Lit × DataW H → Nat
  | (.string bytes, d) => bytes.length + uptoBulk d + 1
  | (_, d) => uptoBulk d + 1
 end
def uptoSmall : (H : Type) → List (DataW H) → Bool := fun _ ds => decide (uptoBulkAll ds ≤ 1048576)
def OpenSpec.upto (s : _root_.Go.ChangeSpec) : _root_.Go.OpenSpec := { _root_.Go.OpenSpec.ofChange s with cond := some uptoSmall }

/-- 'tidegatelaw15.PackTypes', WHERE WHAT IT READS IS OF BULK AT MOST 1048576: true; the input reads as it did. -/
def packTypesUptoRow : OpenClaim := { program := "ytcoblepgehjamaa", sum := "84346ea48a6b876332b8ba0744e43dea0fee43a4f11035891a7e3b5d6c304ed5", func := "tidegate/tidegatelaw15.PackTypes", spec := "packTypes", inPlace := ["internal/abi.NoEscape", "internal/bytealg.MakeNoZero"], unfollowed := true, recurses := true, apart := false, narrowed := true }
def PackTypesUptoSaid : Prop := packTypesUptoRow.holds Try.pinned (OpenSpec.upto packTypesSpec)

/-- 'tidegatelaw15.PackTables', WHERE WHAT IT READS IS OF BULK AT MOST 1048576: true; the input reads as it did. -/
def packTablesUptoRow : OpenClaim := { program := "ytcoblepgehjamaa", sum := "84346ea48a6b876332b8ba0744e43dea0fee43a4f11035891a7e3b5d6c304ed5", func := "tidegate/tidegatelaw15.PackTables", spec := "packTables", inPlace := ["internal/abi.NoEscape", "internal/bytealg.MakeNoZero"], unfollowed := true, recurses := true, apart := false, narrowed := true }
def PackTablesUptoSaid : Prop := packTablesUptoRow.holds Try.pinned (OpenSpec.upto packTablesSpec)

/-- 'tidegatelaw15.PackMembers', WHERE WHAT IT READS IS OF BULK AT MOST 1048576: true; the input reads as it did. -/
def packMembersUptoRow : OpenClaim := { program := "ytcoblepgehjamaa", sum := "84346ea48a6b876332b8ba0744e43dea0fee43a4f11035891a7e3b5d6c304ed5", func := "tidegate/tidegatelaw15.PackMembers", spec := "packMembers", inPlace := ["internal/abi.NoEscape", "internal/bytealg.MakeNoZero"], unfollowed := true, recurses := true, apart := false, narrowed := true }
def PackMembersUptoSaid : Prop := packMembersUptoRow.holds Try.pinned (OpenSpec.upto packMembersSpec)

/-- 'tidegatelaw15.PackCounts', WHERE WHAT IT READS IS OF BULK AT MOST 1048576: true; the input reads as it did. -/
def packCountsUptoRow : OpenClaim := { program := "ytcoblepgehjamaa", sum := "84346ea48a6b876332b8ba0744e43dea0fee43a4f11035891a7e3b5d6c304ed5", func := "tidegate/tidegatelaw15.PackCounts", spec := "packCounts", inPlace := ["internal/abi.NoEscape", "internal/bytealg.MakeNoZero"], unfollowed := true, recurses := true, apart := false, narrowed := true }
def PackCountsUptoSaid : Prop := packCountsUptoRow.holds Try.pinned (OpenSpec.upto packCountsSpec)

end Rows
end Go.Proofs.Ytcoblepgehjamaa

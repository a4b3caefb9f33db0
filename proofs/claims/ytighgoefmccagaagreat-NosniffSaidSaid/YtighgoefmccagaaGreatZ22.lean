/-
  An argument that tells what is said of a body, written out. No condition.
  Plain facts on films of boxes: the first box, the names in it, and all boxes. No condition.
  What the functions of package sniff, and the document's own, answer. Condition: a type's names are as long as a mebibyte; texts are not longer than memory.
-/
import Derived.Test.YtighgoefmccagaaGreatZ13
import Derived.Deep.Strs
import Derived.Deep.Slices
import Derived.Lib.SmallJoins
import Derived.ChangeMaps5
import Derived.OpenShut
import Derived.Test.YtighgoefmccagaaGreatZ1
import Derived.Test.YtighgoefmccagaaGreatZ2
import Derived.Test.YtighgoefmccagaaGreatZ3
import Derived.Test.YtighgoefmccagaaGreatZ7
import Derived.BigQuiet
import Derived.Deep.QuietTactic
import Derived.OwnWalk
import Derived.LoopTactic
import Derived.Laws.BitsAllLaws
import Derived.OneCell
import Derived.Lib.Hide
import Derived.Lib.MinMax
import Derived.Test.YtighgoefmccagaaGreatZ21
import Derived.Test.YtighgoefmccagaaGreatZ5
import Derived.Test.YtighgoefmccagaaGreatZ6
import Derived.Test.YtighgoefmccagaaGreatZ17
import Derived.Test.YtighgoefmccagaaGreatZ14
import Derived.Test.YtighgoefmccagaaGreatZ11
import Derived.Test.YtighgoefmccagaaGreatZ12
import Derived.Laws.MakeOwn
import Derived.RegionTactic
import Derived.Test.YtighgoefmccagaaGreatRows
import Derived.WalkKit
import Derived.Laws.OwnMore
import Derived.Laws.AppendOwn
import Derived.Laws.FloatArith
import Derived.KernelRfl
import Derived.WalkSpells
import Derived.WalkLawsBesides
import Derived.Laws.Externs
import Derived.Deep.RegionWith
import Derived.Deep.DeepCutAuto
import Derived.Laws.IdiomStrings
import Derived.Outline
import Derived.Lib.Builder
import Derived.StillTailTactics
import Derived.Lib.SlBytesConst
import Derived.Lib.SlBytesRow
import Derived.Lib.Strings
import Derived.Lib.TrimByte
import Derived.Lib.BitFns
import Derived.ScopeJumps
import Derived.WalkMore
import Derived.Deep.WholeRow
namespace Go.Proofs.YtighgoefmccagaaGreat
open Go.ChangeShapes Go.WideShapes Go.ChangeAt Go.RowKit Go.Joins Go.Deep

/-- What is said, as a value. -/
abbrev saidV (t u : ByteArray) (A : Option Addr) (n c : Nat) (has ns bug : Bool) : Value := .agg #[.string t, .string u, .slice A n c, .bool has, .bool ns, .bool bug]
end Go.Proofs.YtighgoefmccagaaGreat
namespace Go.Proofs.YtighgoefmccagaaGreat

/-- A box: its name, and how many bytes it has. -/
structure Bx where
  nm : ByteArray
  n : Nat
end Go.Proofs.YtighgoefmccagaaGreat
namespace Go.Proofs.YtighgoefmccagaaGreat
open Go.RowKit

set_option maxHeartbeats 1000000 in
theorem sbug_any (s : ByteArray) (w : World) :
    Calls Tryz.prog 14 #[.string s] w fun e w' => e = .returned (.bool (bugB s)) ∧ w = w' := by
  obtain ⟨v, hv⟩ : ∃ v, v = bugB s := ⟨_, rfl⟩
  rw [← hv]
  unfold bugB at hv
  have HV := Lib.hid hv
  clear hv
  cases d0 : (s.toList == bugL0) <;> cases d1 : (s.toList == bugL1) <;> cases d2 : (s.toList == bugL2) <;> cases d3 : (s.toList == bugL3)
  all_goals
    rw [d0, d1, d2, d3] at HV
  all_goals
    go_enter Tryz.func14, Tryz.ntmps14
    go_wp2
    go_ret
    exact ⟨by rw [HV.out]; rfl, rfl⟩

set_option maxHeartbeats 1000000 in
theorem rbug_any (s : ByteArray) (w : World) :
    Calls Tryz.prog 18 #[.string s] w fun e w' => e = .returned (.bool (bugB s)) ∧ w = w' := by
  obtain ⟨v, hv⟩ : ∃ v, v = bugB s := ⟨_, rfl⟩
  rw [← hv]
  unfold bugB at hv
  have HV := Lib.hid hv
  clear hv
  cases d0 : (s.toList == bugL0) <;> cases d1 : (s.toList == bugL1) <;> cases d2 : (s.toList == bugL2) <;> cases d3 : (s.toList == bugL3)
  all_goals
    rw [d0, d1, d2, d3] at HV
  all_goals
    go_enter Tryz.func18, Tryz.ntmps18
    go_wp2
    go_ret
    exact ⟨by rw [HV.out]; rfl, rfl⟩

end Go.Proofs.YtighgoefmccagaaGreat

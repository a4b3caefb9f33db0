/-
  Plain facts on members that stand one behind the other. No condition.
-/
import Derived.Test.YtcjcbbahhphcdaaDoorTexts
import Derived.Test.YtcjcbbahhphcdaaDoorMv
import Derived.Test.YtcjcbbahhphcdaaDoorByte
import Derived.Test.YtcjcbbahhphcdaaDoorRows
import Derived.WalkKit
import Derived.WalkSpells
import Derived.WalkLawsBesides
import Derived.LoopTactic
import Derived.Lib.Hide
import Derived.Laws.Externs
import Derived.BigQuiet
import Derived.Deep.QuietTactic
import Derived.OwnWalk
import Derived.Laws.BitsAllLaws
import Derived.KernelRfl
import Derived.OneCell
import Derived.Lib.MinMax
namespace Go.Proofs.YtcjcbbahhphcdaaDoor

theorem at_left {x y : ByteArray} {i : Nat} (h : i < x.size) : (x ++ y)[i]! = x[i]! := by
  have h2 : i < (x ++ y).size := by rw [ByteArray.size_append]; omega
  rw [getElem!_pos (x ++ y) i h2, getElem!_pos x i h]
  exact ByteArray.getElem_append_left h
end Go.Proofs.YtcjcbbahhphcdaaDoor


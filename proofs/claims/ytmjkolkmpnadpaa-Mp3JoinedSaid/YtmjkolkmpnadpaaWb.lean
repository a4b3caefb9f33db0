/-
  Plain facts on members that stand one behind the other. No condition.
-/
import Derived.Test.YtmjkolkmpnadpaaTexts
import Derived.Test.YtmjkolkmpnadpaaMv
import Derived.Test.YtmjkolkmpnadpaaByte
import Derived.Test.YtmjkolkmpnadpaaRows
import Derived.WalkKit
import Derived.WalkSpells
import Derived.WalkLawsBesides
import Derived.LoopTactic
import Derived.Lib.Hide
import Derived.Laws.Externs
import Derived.BigQuiet
import Derived.Deep.QuietTactic
import Derived.OwnWalk
import Derived.Laws.BitsAllLaws
import Derived.KernelRfl
import Derived.OneCell
import Derived.Lib.MinMax
namespace Go.Proofs.Ytmjkolkmpnadpaa

theorem at_left {x y : ByteArray} {i : Nat} (h : i < x.size) : (x ++ y)[i]! = x[i]! := by
  have h2 : i < (x ++ y).size := by rw [ByteArray.size_append]; omega
  rw [getElem!_pos (x ++ y) i h2, getElem!_pos x i h]
  exact ByteArray.getElem_append_left h
theorem behind (x y : ByteArray) : (x ++ y).extract x.size (x ++ y).size = y := by
  have h : (x.extract x.size (x.size + y.size)).size = 0 := by simp
  have h0 : x.extract x.size (x.size + y.size) = ByteArray.empty := ByteArray.size_eq_zero_iff.1 h
  rw [ByteArray.size_append, ByteArray.extract_append, h0]
  simp
end Go.Proofs.Ytmjkolkmpnadpaa


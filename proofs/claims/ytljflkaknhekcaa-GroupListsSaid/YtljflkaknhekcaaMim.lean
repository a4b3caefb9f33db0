/-
  Plain facts on types, as layer 10 has them: parameters, which are good, what a text says, and what it is written as. No condition.
-/
import Derived.Test.YtljflkaknhekcaaQuo
import Derived.Test.YtljflkaknhekcaaMv
import Derived.Test.YtljflkaknhekcaaRows
import Derived.WalkKit
import Derived.WalkSpells
import Derived.WalkLawsBesides
import Derived.Laws.Externs
import Derived.Lib.Hide
import Derived.Lib.FrozenHead2
import Derived.KernelRfl
import Derived.LoopTactic
import Derived.Defers
import Derived.Recover
import Derived.OneCell
import Derived.BigQuiet
namespace Go.Proofs.Ytljflkaknhekcaa

/-- A parameter's two texts. -/
structure Prm where
  n : ByteArray
  v : ByteArray

def essL (t u : ByteArray) : List UInt8 := t.data.toList ++ 47 :: u.data.toList
end Go.Proofs.Ytljflkaknhekcaa


/-
  What Has answers: whether a byte is among some. Condition: the text is as long as a length can be.
-/
import Derived.Test.YthiclminkbnibaaDoorRows
import Derived.Test.YthiclminkbnibaaDoorScan
import Derived.WalkKit
import Derived.WalkSpells
import Derived.WalkLawsBesides
import Derived.LoopTactic
import Derived.Lib.Hide
namespace Go.Proofs.YthiclminkbnibaaDoor
open Go.RowKit

end Go.Proofs.YthiclminkbnibaaDoor

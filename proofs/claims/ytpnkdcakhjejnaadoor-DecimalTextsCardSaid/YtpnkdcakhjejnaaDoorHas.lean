/-
  What Has answers: whether a byte is among some. Condition: the text is as long as a length can be.
-/
import Derived.Test.YtpnkdcakhjejnaaDoorRows
import Derived.Test.YtpnkdcakhjejnaaDoorScan
import Derived.WalkKit
import Derived.WalkSpells
import Derived.WalkLawsBesides
import Derived.LoopTactic
import Derived.Lib.Hide
namespace Go.Proofs.YtpnkdcakhjejnaaDoor
open Go.RowKit

end Go.Proofs.YtpnkdcakhjejnaaDoor

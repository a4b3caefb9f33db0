/-
  What lowestFirst, highestFirst and Chunk of package media answer, and Size of the document's own answer of layer 14. Condition: the text is not longer than memory.
-/
import Derived.Test.YtcjcbbahhphcdaaDoorCut
import Derived.Test.YtcjcbbahhphcdaaDoorMv
import Derived.Test.YtcjcbbahhphcdaaDoorByte
import Derived.BigQuiet
import Derived.Deep.QuietTactic
import Derived.OwnWalk
import Derived.LoopTactic
import Derived.WalkKit
import Derived.Lib.Hide
namespace Go.Proofs.YtcjcbbahhphcdaaDoor
open Go.RowKit

/-- The number of the first k bytes, the highest first. -/
def highV (t : ByteArray) : Nat → Nat
  | 0 => 0
  | k + 1 => highV t k * 256 + t[k]!.toNat
theorem highV_lt (t : ByteArray) : ∀ k, highV t k < 256 ^ k
  | 0 => Nat.one_pos
  | k + 1 => by
    have := highV_lt t k
    have h2 : t[k]!.toNat ≤ 255 := by have := t[k]!.toNat_lt; omega
    rw [highV, Nat.pow_succ]
    omega

end Go.Proofs.YtcjcbbahhphcdaaDoor


/-
  What lowestFirst, highestFirst and Chunk of package media answer, and Size of the document's own answer of layer 14. Condition: the text is not longer than memory.
-/
import Derived.Test.YtcoblepgehjamaaCut
import Derived.Test.YtcoblepgehjamaaMv
import Derived.Test.YtcoblepgehjamaaByte
import Derived.BigQuiet
import Derived.Deep.QuietTactic
import Derived.OwnWalk
import Derived.LoopTactic
import Derived.WalkKit
import Derived.Lib.Hide
namespace Go.Proofs.Ytcoblepgehjamaa
open Go.RowKit

/-- The number of the first k bytes, the lowest first. -/
def lowV (t : ByteArray) : Nat → Nat
  | 0 => 0
  | k + 1 => lowV t k + t[k]!.toNat * 256 ^ k
theorem lowV_lt (t : ByteArray) : ∀ k, lowV t k < 256 ^ k
  | 0 => Nat.one_pos
  | k + 1 => by
    have := lowV_lt t k
    have h2 : t[k]!.toNat ≤ 255 := by have := t[k]!.toNat_lt; omega
    have h3 : t[k]!.toNat * 256 ^ k ≤ 255 * 256 ^ k := Nat.mul_le_mul_right _ h2
    rw [lowV, Nat.pow_succ]
    omega
end Go.Proofs.Ytcoblepgehjamaa


/-
  The table of which bytes are among some, as an array in memory. No condition.
-/
import Derived.Test.YtcoblepgehjamaaRows
import Derived.Test.YtcoblepgehjamaaScan
import Derived.WalkKit
import Derived.KernelRfl
namespace Go.Proofs.Ytcoblepgehjamaa
open Go.RowKit

/-- The table of which bytes are among some. -/
def tbl (l : List UInt8) : Array Value := ((List.range 256).map fun c => Value.bool (l.contains (UInt8.ofNat c))).toArray
theorem tbl_at (l : List UInt8) (b : UInt8) : (tbl l)[b.toNat]? = some (.bool (l.contains b)) := by
  have := b.toNat_lt
  simp only [tbl, List.getElem?_toArray]
  rw [List.getElem?_eq_getElem (by simp; omega)]
  simp
theorem tbl_set (l : List UInt8) (b : UInt8) : (tbl l).setIfInBounds b.toNat (.bool true) = tbl (l ++ [b]) := by
  apply Array.ext
  · simp [tbl]
  · intro i h1 h2
    rw [Array.getElem_setIfInBounds (by simpa using h1)]
    simp only [tbl, List.getElem_toArray, List.getElem_map, List.getElem_range]
    have hi : i < 256 := by simpa [tbl] using h2
    split
    · next h =>
      subst h
      simp
    · next h =>
      have : UInt8.ofNat i ≠ b := by
        intro e
        apply h
        rw [← e]
        simp
        omega
      simp [this]

set_option maxRecDepth 100000 in
theorem zero_tbl (w : World) : (zeroValue 84).run Try.prog w = .ok (.agg (tbl [])) w := by kernel_rfl

end Go.Proofs.Ytcoblepgehjamaa


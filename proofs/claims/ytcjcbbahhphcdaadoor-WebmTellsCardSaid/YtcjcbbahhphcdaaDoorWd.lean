/-
  What two and Members of the document's own answer of layer 15. Condition: the text is not longer than memory.
-/
import Derived.Test.YtcjcbbahhphcdaaDoorWb
import Derived.Test.YtcjcbbahhphcdaaDoorCut
import Derived.Test.YtcjcbbahhphcdaaDoorCls
import Derived.Lib.Hide
import Derived.Test.YtcjcbbahhphcdaaDoorMv
import Derived.BigQuiet
import Derived.Deep.QuietTactic
import Derived.OwnWalk
import Derived.LoopTactic
import Derived.WalkKit
namespace Go.Proofs.YtcjcbbahhphcdaaDoor
open Go.RowKit

theorem list_empty {x : ByteArray} (h : x.size = 0) : (x.toList == ([] : List UInt8)) = true := by
  have := toList_size x
  rw [beq_iff_eq]
  exact List.eq_nil_of_length_eq_zero (by omega)
theorem list_full {x : ByteArray} (h : 0 < x.size) : (x.toList == ([] : List UInt8)) = false := by
  have := toList_size x
  rw [beq_eq_false_iff_ne]
  intro e
  rw [e] at this
  simp at this
  omega
theorem byte_ne {a b : UInt8} {n : Int} (h : a ≠ b) (hn : (b.toNat : Int) = n) : ((a.toNat : Int) == n) = false := by
  rw [beq_eq_false_iff_ne, ← hn]
  intro e
  exact h (UInt8.toNat_inj.1 (by omega))

end Go.Proofs.YtcjcbbahhphcdaaDoor


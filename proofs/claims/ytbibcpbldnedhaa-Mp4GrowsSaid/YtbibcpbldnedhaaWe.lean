/-
  What Member of the document's own answer of layer 15. Condition: the texts are short.
-/
import Derived.Test.YtbibcpbldnedhaaWb
import Derived.Test.YtbibcpbldnedhaaId
import Derived.WalkKit
import Derived.Lib.SlBytesConst
import Derived.Lib.SlBytesRow
import Derived.Lib.SmallJoins
namespace Go.Proofs.Ytbibcpbldnedhaa
open Go.RowKit

theorem new_block (w : World) (o : Obj) : (w.alloc o).heap[w.heap.size]? = some o := by
  show (w.heap.push o)[w.heap.size]? = some o
  exact Array.getElem?_push_size
end Go.Proofs.Ytbibcpbldnedhaa


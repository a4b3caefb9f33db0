/-
  What Exact and Table of the document's own answer of layer 13. Condition of Exact: the text is not longer than memory.
-/
import Derived.Test.YtbibcpbldnedhaaTexts
import Derived.Test.YtbibcpbldnedhaaMv
import Derived.Test.YtbibcpbldnedhaaByte
import Derived.Test.YtbibcpbldnedhaaScan
import Derived.LoopTactic
import Derived.Laws.OwnMore
import Derived.Laws.AppendOwn
import Derived.Test.YtbibcpbldnedhaaRows
import Derived.WalkKit
import Derived.WalkSpells
import Derived.WalkLawsBesides
import Derived.Lib.Hide
import Derived.Laws.Externs
import Derived.BigQuiet
import Derived.Deep.QuietTactic
import Derived.OwnWalk
import Derived.Laws.BitsAllLaws
import Derived.KernelRfl
import Derived.OneCell
import Derived.Lib.MinMax
namespace Go.Proofs.Ytbibcpbldnedhaa
open Go.RowKit

theorem own_fresh {w : World} {base g : Nat} (hg : g = w.heap.size) (hb : base ≤ w.heap.size) : (w.alloc (.cells #[] 5)).ownsRow base 5 1 (.slice (some ⟨g, 0, none⟩) 0 0) 0 [] := by
  subst hg
  exact World.ownsRow_made w #[] 0 hb (Nat.zero_le _) rfl

end Go.Proofs.Ytbibcpbldnedhaa


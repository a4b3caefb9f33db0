/-
  The law MaskFirst returns true for any text and patterns. Conditions: texts are as long as a length can be; what the slice's reading gives.
-/
import Derived.Test.YtbibcpbldnedhaaTexts
import Derived.Test.YtbibcpbldnedhaaMv
import Derived.Test.YtbibcpbldnedhaaByte
import Derived.Test.YtbibcpbldnedhaaScan
import Derived.Test.YtbibcpbldnedhaaCut
import Derived.Laws.OwnMore
import Derived.Laws.AppendOwn
import Derived.Test.YtbibcpbldnedhaaRows
import Derived.WalkKit
import Derived.WalkSpells
import Derived.WalkLawsBesides
import Derived.LoopTactic
import Derived.Lib.Hide
import Derived.Laws.Externs
import Derived.BigQuiet
import Derived.Deep.QuietTactic
import Derived.OwnWalk
import Derived.Laws.BitsAllLaws
import Derived.KernelRfl
import Derived.OneCell
import Derived.Lib.MinMax
import Derived.Laws.IdiomStrings
import Derived.Laws.BytesArg
import Derived.Laws.MakeOwn
import Derived.RegionTactic
import Derived.StillTailTactics
namespace Go.Proofs.Ytbibcpbldnedhaa
open Go.RowKit

theorem own_below {w w' : World} {base : Nat} {e : TypeId} {size n : Nat} {v : Value} {xs : List Value} (h : w.ownsRow base e size v n xs) (hb : Below w.heap.size w w') : w'.ownsRow base e size v n xs := by
  refine ⟨h.1, ?_⟩
  rcases h.2 with h2 | ⟨g, cap, cur, e1, e2, e3, e4⟩
  · exact .inl h2
  · exact .inr ⟨g, cap, cur, e1, e2, (hb.block g (h.lt g (by rw [e1]; rfl)).2).trans e3, e4⟩

end Go.Proofs.Ytbibcpbldnedhaa


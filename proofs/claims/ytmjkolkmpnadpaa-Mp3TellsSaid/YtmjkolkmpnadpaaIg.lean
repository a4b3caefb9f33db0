/-
  What Needs of the document's own answers of a table of patterns. Conditions: the text is not longer than memory; the slice lies in a block of its own; the patterns are good.
-/
import Derived.Test.YtmjkolkmpnadpaaTexts
import Derived.Test.YtmjkolkmpnadpaaMv
import Derived.Test.YtmjkolkmpnadpaaByte
import Derived.Test.YtmjkolkmpnadpaaCls
import Derived.Test.YtmjkolkmpnadpaaRows
import Derived.WalkKit
import Derived.WalkSpells
import Derived.WalkLawsBesides
import Derived.LoopTactic
import Derived.Lib.Hide
import Derived.Laws.Externs
import Derived.BigQuiet
import Derived.Deep.QuietTactic
import Derived.OwnWalk
import Derived.Laws.BitsAllLaws
import Derived.KernelRfl
import Derived.OneCell
import Derived.Lib.MinMax
namespace Go.Proofs.Ytmjkolkmpnadpaa
open Go.RowKit

/-- A world behind w: what w had is as it was. -/
def Aft (w W : World) : Prop := Below w.heap.size w W
theorem Aft.drew {w W : World} (h : Aft w W) : Aft w W.drew := Below.drew h
theorem Aft.step {w W W' : World} (h : Aft w W) (hb : Below W.heap.size W W') : Aft w W' := Below.trans h (hb.mono h.size)
theorem Aft.next {w : World} {x : Wld (Aft w)} {W' : World} (hb : Below x.val.heap.size x.val W') : Aft w W' := x.ok.step hb

end Go.Proofs.Ytmjkolkmpnadpaa


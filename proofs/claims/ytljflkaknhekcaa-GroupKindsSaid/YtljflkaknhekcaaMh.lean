/-
  What Same and Serial of package mime answer of types. Condition: texts are as long as a mebibyte, and parameters as many.
-/
import Derived.Test.YtljflkaknhekcaaMg
import Derived.StillTailTactics
import Derived.Deep.RegionWith
namespace Go.Proofs.Ytljflkaknhekcaa
open Go.RowKit Go.Maps

theorem below_on {a w w' : World} (h : Below a.heap.size a w) (hb : Below w.heap.size w w') : Below a.heap.size a w' := h.trans (hb.mono h.size)

end Go.Proofs.Ytljflkaknhekcaa


/-
  What the document's Good, Same and Serial of layer 10 answer of types. Conditions: texts are as long as a mebibyte, and parameters as many.
-/
import Derived.Test.YtljflkaknhekcaaMg
import Derived.Test.YtljflkaknhekcaaQuo
import Derived.Test.YtljflkaknhekcaaMv
import Derived.Test.YtljflkaknhekcaaCls
import Derived.Test.YtljflkaknhekcaaMh
import Derived.Test.YtljflkaknhekcaaRows
import Derived.WalkKit
import Derived.WalkSpells
import Derived.WalkLawsBesides
import Derived.LoopTactic
import Derived.Lib.Hide
import Derived.Laws.IdiomStrings
import Derived.Outline
namespace Go.Proofs.Ytljflkaknhekcaa
open Go.RowKit

/-- The worlds in which a type lies in the block that came first. -/
def MimAt (w : World) (cs : Array Value) (W : World) : Prop := Below w.heap.size w W ∧ Blk W w.heap.size 24 cs
theorem MimAt.drew {w W : World} {cs : Array Value} (h : MimAt w cs W) : MimAt w cs W.drew := ⟨h.1.drew, h.2⟩
theorem MimAt.step {w W W' : World} {cs : Array Value} (h : MimAt w cs W) (hb : Below W.heap.size W W') : MimAt w cs W' := ⟨below_on h.1 hb, h.2.below hb h.2.lt⟩
theorem MimAt.next {w : World} {cs : Array Value} {x : Wld (MimAt w cs)} {W' : World} (hb : Below x.val.heap.size x.val W') : MimAt w cs W' := x.ok.step hb
end Go.Proofs.Ytljflkaknhekcaa


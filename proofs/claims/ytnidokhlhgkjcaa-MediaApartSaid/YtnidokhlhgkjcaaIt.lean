/-
  The law ImageTable. Condition: what an argument's reading gives.
-/
import Derived.Test.YtnidokhlhgkjcaaIc
import Derived.Test.YtnidokhlhgkjcaaIg
import Derived.Test.YtnidokhlhgkjcaaId
import Derived.Test.YtnidokhlhgkjcaaCut
namespace Go.Proofs.Ytnidokhlhgkjcaa
open Go.RowKit

/-- A world behind w in which a pattern lies in the block behind w's. -/
def PicAt (w : World) (cs : Array Value) (W : World) : Prop := Below w.heap.size w W ∧ Blk W w.heap.size 32 cs
theorem PicAt.drew {w W : World} {cs : Array Value} (h : PicAt w cs W) : PicAt w cs W.drew := ⟨h.1.drew, h.2⟩
theorem PicAt.next {w : World} {cs : Array Value} {x : Wld (PicAt w cs)} {W' : World} (hb : Below x.val.heap.size x.val W') : PicAt w cs W' := ⟨x.ok.1.trans (hb.mono x.ok.1.size), x.ok.2.below hb x.ok.2.lt⟩

end Go.Proofs.Ytnidokhlhgkjcaa


/-
  'Mv B r w w'': below block B nothing has turned but the blocks of r. Plain facts on worlds; no condition.
-/
import Derived.Below
import Derived.Deep.Draws
namespace Go.Proofs.Ytlfbbphkbpajoaa
open Go.RowKit

theorem Below.drewN' {B : Nat} {a w : World} (h : Below B a w) (n : Nat) : Below B a (w.drewN n) := ⟨h.os, h.tape, h.output, h.size, h.block⟩

section
variable {w w' : World} {g : Nat} {t : TypeId} {cs : Array Value}
end

end Go.Proofs.Ytlfbbphkbpajoaa


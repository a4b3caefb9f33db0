/-
  A number brought between two others: package float's Clamp, and the document's own Max and Min. Condition: bits below 2^64.
-/
import Derived.Test.YthiclminkbnibaaDoorFn4
namespace Go.Proofs.YthiclminkbnibaaDoor
open Go.RowKit

theorem minN_norm {r s z : Nat} (h : normB r = normB s) : normB (minN r z) = normB (minN s z) := by
  cases hs : nanB s
  · rw [num_norm h hs]
  · have hr := nan_norm h
    rw [hs] at hr
    unfold minN
    rw [hr, hs]
    rfl

end Go.Proofs.YthiclminkbnibaaDoor

/-
  Which whole number a number is: the document's own answer. Condition: bits below 2^64.
-/
import Derived.Test.YthiclminkbnibaaDoorFn6
namespace Go.Proofs.YthiclminkbnibaaDoor
open Go.RowKit

theorem kind_two (x : Nat) : decide (kindB x < 2) = (nanB x || decide (x % 9223372036854775808 = 9218868437227405312)) := by
  unfold kindB
  cases nanB x <;> simp
  split
  · simp [*]
  · split
    · simp [*]
    · split <;> simp [*]

end Go.Proofs.YthiclminkbnibaaDoor

/-
  Plain facts on the 64 bits of a float64: what they stand for, and which of two comes first. Condition: bits below 2^64.
-/
import Derived.Laws.FloatArith
import Derived.KernelRfl
namespace Go.Proofs.Ytlfbbphkbpajoaa

/-- No number. -/
def nanB (b : Nat) : Bool := decide (9218868437227405312 < b % 9223372036854775808)
section
variable {b c : Nat}
end

end Go.Proofs.Ytlfbbphkbpajoaa


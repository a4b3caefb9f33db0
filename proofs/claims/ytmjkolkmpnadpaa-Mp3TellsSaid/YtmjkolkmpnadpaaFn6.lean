/-
  Which whole number a number is: package float's Whole, and the document's own. Condition: bits below 2^64.
-/
import Derived.Test.YtmjkolkmpnadpaaFn4
namespace Go.Proofs.Ytmjkolkmpnadpaa
open Go.RowKit

section
variable {x : Nat}
theorem below (hx : x < 18446744073709551616) (h : nanB x = false) : (FloatKind.f64.format.order x 14069245235905429503 == some .lt) = (negB x && decide (4845873199050653695 < x % 9223372036854775808)) := by
  rw [ord_lt hx (by decide), h]
  have k : key 14069245235905429503 = -4845873199050653695 := by kernel_rfl
  have n : nanB 14069245235905429503 = false := by kernel_rfl
  rw [k, n, Bool.eq_iff_iff]
  unfold key negB
  simp
  split <;> omega
end

end Go.Proofs.Ytmjkolkmpnadpaa


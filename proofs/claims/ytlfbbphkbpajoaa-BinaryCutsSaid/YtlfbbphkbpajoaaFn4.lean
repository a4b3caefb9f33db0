/-
  The greater and the lesser one of two numbers, and a number brought between two others: package float's answers, and the document's own. Condition: bits below 2^64.
-/
import Derived.Test.YtlfbbphkbpajoaaFn3
namespace Go.Proofs.Ytlfbbphkbpajoaa
open Go.RowKit

theorem norm_cut (isMax : Bool) (x y t : Nat) : (Question.nanMinMax .f64 isMax x y).cut t < 18446744073709551616 ∧ nanB ((Question.nanMinMax .f64 isMax x y).cut t) = true := by
  have e : (Question.nanMinMax .f64 isMax x y).cut t = (t % 2) * 9223372036854775808 + 9218868437227405312 + 1 + (t / 2) % 4503599627370495 := rfl
  rw [e]
  unfold nanB
  rw [decide_eq_true_eq]
  have h2 : t % 2 = 0 ∨ t % 2 = 1 := by omega
  have h := Nat.mod_lt (t / 2) (show 0 < 4503599627370495 by decide)
  clear e
  generalize t / 2 % 4503599627370495 = u at *
  rcases h2 with h2 | h2 <;> rw [h2] <;> omega

section
variable {P : Program}
end

end Go.Proofs.Ytlfbbphkbpajoaa


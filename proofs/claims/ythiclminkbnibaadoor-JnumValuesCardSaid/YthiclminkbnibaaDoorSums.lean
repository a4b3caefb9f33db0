/-
  What Add, Times and Clamp of layer 5 answer, and the document's In and Fits. Condition: the numbers are ints.
-/
import Derived.Test.YthiclminkbnibaaDoorLift
import Derived.WalkKit
import Derived.WalkSpells
import Derived.WalkLawsBesides
import Derived.Lib.Hide
namespace Go.Proofs.YthiclminkbnibaaDoor
open Go.RowKit

/-- Whether a number is from -(2^53 - 1) to 2^53 - 1. -/
def exN (n : Int) : Bool := decide (-9007199254740991 ≤ n) && decide (n ≤ 9007199254740991)
theorem exN_yes {n : Int} (h : exN n = true) : -9007199254740991 ≤ n ∧ n ≤ 9007199254740991 := by unfold exN at h; simpa using h

/-- A number without its sign. -/
def absN (n : Int) : Int := if n < 0 then -n else n
theorem absN_range {n : Int} (h : exN n = true) : 0 ≤ absN n ∧ absN n ≤ 9007199254740991 := by
  have := exN_yes h
  unfold absN
  split <;> omega
theorem absN_zero {n : Int} (h : n ≠ 0) : 1 ≤ absN n ∨ n < -9223372036854775808 := by unfold absN; split <;> omega

/-- Whether the product of two numbers is not too great, both being not. -/
def fitN (a b : Int) : Bool := b == 0 || decide (absN a ≤ 9007199254740991 / absN b)
theorem abs_mul (a b : Int) : absN (a * b) = absN a * absN b := by
  unfold absN
  by_cases ha : a < 0 <;> by_cases hb : b < 0
  · have := Int.mul_pos_of_neg_of_neg ha hb
    rw [if_neg (by omega), if_pos ha, if_pos hb]
    rw [Int.neg_mul_neg]
  · by_cases h0 : b = 0
    · subst h0; simp
    · have := Int.mul_neg_of_neg_of_pos ha (show 0 < b by omega)
      rw [if_pos this, if_pos ha, if_neg hb, Int.neg_mul]
  · by_cases h0 : a = 0
    · subst h0; simp
    · have := Int.mul_neg_of_pos_of_neg (show 0 < a by omega) hb
      rw [if_pos this, if_neg ha, if_pos hb, Int.mul_neg]
  · have := Int.mul_nonneg (show 0 ≤ a by omega) (show 0 ≤ b by omega)
    rw [if_neg (by omega), if_neg ha, if_neg hb]
theorem fitN_range {a b : Int} (h : fitN a b = true) : -9007199254740991 ≤ a * b ∧ a * b ≤ 9007199254740991 := by
  have key : absN (a * b) ≤ 9007199254740991 := by
    by_cases h0 : b = 0
    · subst h0; simp [absN]
    · have hb : 0 < absN b := by unfold absN; split <;> omega
      unfold fitN at h
      have e : (b == 0) = false := by simpa using h0
      rw [e, Bool.false_or, decide_eq_true_eq, Int.le_ediv_iff_mul_le hb] at h
      rw [abs_mul]
      exact h
  unfold absN at key
  split at key <;> omega

/-- What Clamp answers. -/
def claN (n l h : Int) : Int := if n < l then l else if h < n then h else n

set_option maxHeartbeats 400000 in
theorem clamp_any (n l h : Int) (w : World) :
    Calls Tryd.prog 29 #[.int .i64 n, .int .i64 l, .int .i64 h] w fun e w' => e = .returned (.int .i64 (claN n l h)) ∧ w = w' := by
  by_cases h1 : n < l
  · have HV : claN n l h = l := by unfold claN; rw [if_pos h1]
    rw [HV]
    clear HV
    have e1 : decide (n < l) = true := by simpa using h1
    go_enter Tryd.func29, Tryd.ntmps29
    go_wp2
    go_ret
    exact ⟨rfl, rfl⟩
  · have e1 : decide (n < l) = false := by simpa using h1
    by_cases h2 : h < n
    · have HV : claN n l h = h := by unfold claN; rw [if_neg h1, if_pos h2]
      rw [HV]
      clear HV
      have e2 : decide (h < n) = true := by simpa using h2
      go_enter Tryd.func29, Tryd.ntmps29
      go_wp2
      go_ret
      exact ⟨rfl, rfl⟩
    · have HV : claN n l h = n := by unfold claN; rw [if_neg h1, if_neg h2]
      rw [HV]
      clear HV
      have e2 : decide (h < n) = false := by simpa using h2
      go_enter Tryd.func29, Tryd.ntmps29
      go_wp2
      go_ret
      exact ⟨rfl, rfl⟩

end Go.Proofs.YthiclminkbnibaaDoor

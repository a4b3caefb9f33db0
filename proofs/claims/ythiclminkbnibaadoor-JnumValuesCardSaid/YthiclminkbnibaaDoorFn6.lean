/-
  Which whole number a number is: package float's Whole, and the document's own. Condition: bits below 2^64.
-/
import Derived.Test.YthiclminkbnibaaDoorFn5
namespace Go.Proofs.YthiclminkbnibaaDoor
open Go.RowKit

theorem order_nan {x : Nat} (hx : x < 18446744073709551616) (h : nanB x = true) (c : Nat) : FloatKind.f64.format.order x c = none := by
  show (Ieee.double.read x).order (Ieee.double.read c) = none
  rw [read_nan hx (isnan h)]
  cases Ieee.double.read c <;> rfl

/-- A number made whole, towards 0. -/
def truncB (x : Nat) : Nat := Ieee.double.write ((Ieee.double.read x).integral .zero)
theorem truncB_lt (x : Nat) : truncB x < 18446744073709551616 := Ieee.double.write_lt _

theorem integral_num {x : Nat} (hx : x < 18446744073709551616) (h : nanB x = false) (w : World) : (Extern.MathFloor.toIntegral "math.archTrunc" .zero #[.float .f64 x]).run Tryd.prog w = .ok (.float .f64 (truncB x)) w := by
  conv => lhs; arg 2; whnf
  have e : FloatKind.f64.decode x = Ieee.double.read x := rfl
  rw [e]
  unfold truncB
  have := notnan h
  rcases Nat.lt_or_eq_of_le this with h1 | h1
  · rw [read_num hx h1]; rfl
  · rw [read_inf hx h1]; rfl
theorem integral_nan {x : Nat} (hx : x < 18446744073709551616) (h : nanB x = true) (w : World) : ∃ r n, (Extern.MathFloor.toIntegral "math.archTrunc" .zero #[.float .f64 x]).run Tryd.prog w = .ok (.float .f64 r) (w.drewN n) := by
  conv => rhs; ext r; rhs; ext n; lhs; arg 2; whnf
  have e : FloatKind.f64.decode x = Ieee.double.read x := rfl
  rw [e, read_nan hx (isnan h)]
  dsimp only
  split
  · exact ⟨x, 0, rfl⟩
  · simp [Question.forced]
    exact ⟨1, rfl⟩

theorem cut_le (s : Bool) (n d : Nat) : Ieee.Toward.zero.cut s n d ≤ n := by
  unfold Ieee.Toward.cut
  exact Nat.div_le_self _ _

/-- How great the whole part of a number of at most 53 digits is. -/
def wholeM (x : Nat) : Nat := Ieee.Toward.zero.cut (negB x) (mant (x % 9223372036854775808)) (1074 - expo (x % 9223372036854775808))
/-- The whole part. -/
def partB (x : Nat) : Int := if negB x = true then -(wholeM x : Int) else wholeM x

section
variable {x : Nat}
theorem whole_int (hx : x < 18446744073709551616) (h : x % 9223372036854775808 ≤ 4845873199050653695) : (Ieee.double.read x).integral .zero = .number (negB x) (wholeM x) 0 := by
  rw [read_num hx (by omega)]
  have he : expo (x % 9223372036854775808) ≤ 1074 := by unfold expo; omega
  unfold wholeM
  simp only [Ieee.Datum.integral]
  rw [show (-1074 + ((expo (x % 9223372036854775808) : Nat) : Int)).toNat = 0 from by omega, show (-(-1074 + ((expo (x % 9223372036854775808) : Nat) : Int))).toNat = 1074 - expo (x % 9223372036854775808) from by omega]
  rfl
theorem whole_lt (h : x % 9223372036854775808 ≤ 4845873199050653695) : wholeM x < 9007199254740992 := by
  have := cut_le (negB x) (mant (x % 9223372036854775808)) (1074 - expo (x % 9223372036854775808))
  have : mant (x % 9223372036854775808) < 9007199254740992 := by unfold mant; omega
  unfold wholeM
  omega
theorem part_to (hx : x < 18446744073709551616) (h : x % 9223372036854775808 ≤ 4845873199050653695) : floatToIntVal .f64 x .i64 = some (partB x) := by
  unfold floatToIntVal
  have e : (FloatKind.f64.decode x).toInt .zero = some (partB x) := by
    show (Ieee.double.read x).toInt .zero = _
    unfold Ieee.Datum.toInt
    rw [whole_int hx h]
    unfold partB Ieee.signed
    simp
  rw [e]
  have := whole_lt h
  have e1 : IntKind.i64.min = -9223372036854775808 := by kernel_rfl
  have e2 : IntKind.i64.max = 9223372036854775807 := by kernel_rfl
  simp only [e1, e2]
  unfold partB
  rw [if_pos]
  split <;> omega
theorem trunc_is (hx : x < 18446744073709551616) (h : x % 9223372036854775808 ≤ 4845873199050653695) : truncB x = Ieee.double.nearest (negB x) (wholeM x) 0 := by
  unfold truncB
  rw [whole_int hx h]
  rfl

theorem nearest_lt64 (s : Bool) (m : Nat) (i : Int) : Ieee.double.nearest s m i < 18446744073709551616 := Ieee.double.nearest_lt s m i
theorem word_zero (s : Bool) : key (Ieee.double.nearest s 0 0) = 0 ∧ nanB (Ieee.double.nearest s 0 0) = false := by
  cases s
  · exact ⟨by kernel_rfl, by kernel_rfl⟩
  · exact ⟨by kernel_rfl, by kernel_rfl⟩

/-- Made whole and compared, or made an integer, a number again, and compared: that is the same. -/
theorem whole_back (hx : x < 18446744073709551616) (h : x % 9223372036854775808 ≤ 4845873199050653695) :
    (FloatKind.f64.format.order (floatOfInt .f64 (partB x)) x != some .eq) = (FloatKind.f64.format.order x (truncB x) != some .eq) := by
  have hf : floatOfInt .f64 (partB x) = Ieee.double.nearest (decide (partB x < 0)) (partB x).natAbs 0 := rfl
  rw [hf, trunc_is hx h, ord_ne (nearest_lt64 _ _ _) hx, ord_ne hx (nearest_lt64 _ _ _)]
  by_cases hm : wholeM x = 0
  · have e1 : (partB x).natAbs = 0 := by unfold partB; rw [hm]; split <;> rfl
    rw [e1, hm]
    obtain ⟨k1, n1⟩ := word_zero (decide (partB x < 0))
    obtain ⟨k2, n2⟩ := word_zero (negB x)
    rw [k1, n1, k2, n2]
    cases nanB x <;> simp [eq_comm]
  · have e1 : (partB x).natAbs = wholeM x := by unfold partB; split <;> omega
    have e2 : decide (partB x < 0) = negB x := by
      unfold partB
      cases negB x <;> simp <;> omega
    rw [e1, e2]
    generalize Ieee.double.nearest (negB x) (wholeM x) 0 = t
    cases nanB x <;> cases nanB t <;> simp [eq_comm]

theorem too_great (hx : x < 18446744073709551616) (h : nanB x = false) : (FloatKind.f64.format.order (x % 9223372036854775808) 4845873199050653695 == some .gt) = decide (4845873199050653695 < x % 9223372036854775808) := by
  rw [ord_gt (by omega) (by decide)]
  have k : key 4845873199050653695 = 4845873199050653695 := by kernel_rfl
  have n : nanB 4845873199050653695 = false := by kernel_rfl
  rw [k, n, Bool.eq_iff_iff]
  unfold nanB at h ⊢
  unfold key
  rw [Nat.mod_mod]
  simp at h ⊢
  omega
theorem above (hx : x < 18446744073709551616) (h : nanB x = false) : (FloatKind.f64.format.order x 4845873199050653695 == some .gt) = (!negB x && decide (4845873199050653695 < x % 9223372036854775808)) := by
  rw [ord_gt hx (by decide), h]
  have k : key 4845873199050653695 = 4845873199050653695 := by kernel_rfl
  have n : nanB 4845873199050653695 = false := by kernel_rfl
  rw [k, n, Bool.eq_iff_iff]
  unfold key negB
  simp
  split <;> omega
theorem below (hx : x < 18446744073709551616) (h : nanB x = false) : (FloatKind.f64.format.order x 14069245235905429503 == some .lt) = (negB x && decide (4845873199050653695 < x % 9223372036854775808)) := by
  rw [ord_lt hx (by decide), h]
  have k : key 14069245235905429503 = -4845873199050653695 := by kernel_rfl
  have n : nanB 14069245235905429503 = false := by kernel_rfl
  rw [k, n, Bool.eq_iff_iff]
  unfold key negB
  simp
  split <;> omega
end

/-- Is it a whole number of at most 53 digits? -/
def wholeB (x : Nat) : Bool := !nanB x && !decide (4845873199050653695 < x % 9223372036854775808) && (FloatKind.f64.format.order x (truncB x) == some .eq)
def wholeV (x : Nat) : Int := if wholeB x = true then partB x else 0

theorem order_inf {x : Nat} (hx : x < 18446744073709551616) (h : x % 9223372036854775808 = 9218868437227405312) : wholeB x = false := by
  unfold wholeB
  rw [h]
  simp

end Go.Proofs.YthiclminkbnibaaDoor

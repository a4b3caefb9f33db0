/-
  Plain facts on the 64 bits of a float64: what they stand for, and which of two comes first. Condition: bits below 2^64.
-/
import Derived.Laws.FloatArith
import Derived.KernelRfl
namespace Go.Proofs.Ytmjkolkmpnadpaa

/-- No number. -/
def nanB (b : Nat) : Bool := decide (9218868437227405312 < b % 9223372036854775808)
/-- Where a number stands; both noughts at 0. -/
def key (b : Nat) : Int := if 9223372036854775808 ≤ b then -((b % 9223372036854775808 : Nat) : Int) else ((b % 9223372036854775808 : Nat) : Int)
def negB (b : Nat) : Bool := decide (9223372036854775808 ≤ b)

theorem f64_sign : Ieee.double.signWeight = 9223372036854775808 := by kernel_rfl
theorem f64_binade : Ieee.double.binade = 4503599627370496 := by kernel_rfl
theorem f64_inf : Ieee.double.infRung = 9218868437227405312 := by kernel_rfl
theorem f64_least : Ieee.double.leastPlace = -1074 := by kernel_rfl

/-- The exponent and the significand of a magnitude. -/
def expo (r : Nat) : Nat := r / 4503599627370496 - 1
def mant (r : Nat) : Nat := r - (r / 4503599627370496 - 1) * 4503599627370496

theorem neg_of {b : Nat} (hb : b < 18446744073709551616) : (b / 9223372036854775808 % 2 == 1) = negB b := by
  unfold negB
  rw [Bool.eq_iff_iff, beq_iff_eq, decide_eq_true_eq]
  omega

theorem read_num {b : Nat} (hb : b < 18446744073709551616) (h : b % 9223372036854775808 < 9218868437227405312) :
    Ieee.double.read b = .number (negB b) (mant (b % 9223372036854775808)) (-1074 + (expo (b % 9223372036854775808) : Nat)) := by
  unfold Ieee.Format.read
  simp only [f64_sign, f64_binade, f64_inf, f64_least, neg_of hb]
  unfold mant expo
  split
  · rename_i h1
    have e : b % 9223372036854775808 / 4503599627370496 = 0 := by omega
    rw [e]
    simp
  · rename_i h1
    congr 1
    omega
theorem read_inf {b : Nat} (hb : b < 18446744073709551616) (h : b % 9223372036854775808 = 9218868437227405312) :
    Ieee.double.read b = .infinity (negB b) := by
  unfold Ieee.Format.read
  simp only [f64_sign, f64_binade, f64_inf, f64_least, neg_of hb]
  rw [if_neg (by omega), if_neg (by omega), if_pos h]
theorem read_nan {b : Nat} (hb : b < 18446744073709551616) (h : 9218868437227405312 < b % 9223372036854775808) :
    Ieee.double.read b = .nan (negB b) (b % 9223372036854775808 - 9218868437227405312) := by
  unfold Ieee.Format.read
  simp only [f64_sign, f64_binade, f64_inf, f64_least, neg_of hb]
  rw [if_neg (by omega), if_neg (by omega), if_neg (by omega)]

theorem val_lt {r t : Nat} (h : r < t) : mant r * 2 ^ expo r < mant t * 2 ^ expo t := by
  rcases Nat.lt_or_ge (expo r) (expo t) with he | he
  · have h1 : mant r < 2 * 4503599627370496 := by unfold mant; omega
    have h2 : 4503599627370496 ≤ mant t := by unfold mant; unfold expo at he; omega
    calc mant r * 2 ^ expo r < 2 * 4503599627370496 * 2 ^ expo r := Nat.mul_lt_mul_of_pos_right h1 (Nat.two_pow_pos _)
      _ = 4503599627370496 * 2 ^ (expo r + 1) := by rw [Nat.pow_succ, Nat.mul_comm (2 ^ expo r) 2, ← Nat.mul_assoc, Nat.mul_comm 4503599627370496 2]
      _ ≤ 4503599627370496 * 2 ^ expo t := Nat.mul_le_mul_left _ (Nat.pow_le_pow_right (by omega) he)
      _ ≤ mant t * 2 ^ expo t := Nat.mul_le_mul_right _ h2
  · have e : expo t = expo r := by unfold expo at he ⊢; omega
    rw [e]
    refine Nat.mul_lt_mul_of_pos_right ?_ (Nat.two_pow_pos _)
    unfold expo at e
    unfold mant
    rw [e]
    omega
theorem val_lt_iff (r t : Nat) : mant r * 2 ^ expo r < mant t * 2 ^ expo t ↔ r < t := by
  refine ⟨fun h => ?_, val_lt⟩
  rcases Nat.lt_trichotomy r t with h1 | h1 | h1
  · exact h1
  · subst h1; omega
  · have := val_lt h1; omega
theorem val_eq_iff (r t : Nat) : mant r * 2 ^ expo r = mant t * 2 ^ expo t ↔ r = t := by
  refine ⟨fun h => ?_, fun h => by rw [h]⟩
  rcases Nat.lt_trichotomy r t with h1 | h1 | h1
  · have := val_lt h1; omega
  · exact h1
  · have := val_lt h1; omega
theorem mant_zero (r : Nat) : mant r = 0 ↔ r = 0 := by unfold mant; omega

/-- A significand shifted up to a base m. -/
def upTo (r m : Nat) : Nat := mant r <<< (expo r - m)
theorem upTo_val {r m : Nat} (h : m ≤ expo r) : upTo r m * 2 ^ m = mant r * 2 ^ expo r := by
  unfold upTo
  rw [Nat.shiftLeft_eq, Nat.mul_assoc, ← Nat.pow_add, Nat.sub_add_cancel h]
theorem upTo_lt {r t m : Nat} (hr : m ≤ expo r) (ht : m ≤ expo t) : upTo r m < upTo t m ↔ r < t := by
  rw [← val_lt_iff r t, ← upTo_val hr, ← upTo_val ht]
  exact (Nat.mul_lt_mul_right (Nat.two_pow_pos m)).symm
theorem upTo_eq {r t m : Nat} (hr : m ≤ expo r) (ht : m ≤ expo t) : upTo r m = upTo t m ↔ r = t := by
  rw [← val_eq_iff r t, ← upTo_val hr, ← upTo_val ht]
  exact ⟨fun h => by rw [h], fun h => Nat.eq_of_mul_eq_mul_right (Nat.two_pow_pos m) h⟩
theorem upTo_zero {r m : Nat} : upTo r m = 0 ↔ r = 0 := by
  unfold upTo
  rw [Nat.shiftLeft_eq, Nat.mul_eq_zero, mant_zero]
  have := Nat.two_pow_pos (expo r - m)
  omega

theorem compare_congr {p q p' q' : Int} (hl : p < q ↔ p' < q') (he : p = q ↔ p' = q') : compare p q = compare p' q' := by
  show compareOfLessAndEq p q = compareOfLessAndEq p' q'
  unfold compareOfLessAndEq
  simp only [hl, he]
theorem compare_lt_iff (p q : Int) : compare p q = .lt ↔ p < q := by
  show compareOfLessAndEq p q = .lt ↔ _
  unfold compareOfLessAndEq
  split
  · simp [*]
  · split <;> simp [*]
theorem compare_gt_iff (p q : Int) : compare p q = .gt ↔ q < p := by
  show compareOfLessAndEq p q = .gt ↔ _
  unfold compareOfLessAndEq
  split
  · simp; omega
  · split
    · simp; omega
    · simp; omega

/-- WHICH OF TWO COMES FIRST. -/
theorem order_key {b c : Nat} (hb : b < 18446744073709551616) (hc : c < 18446744073709551616) :
    FloatKind.f64.format.order b c = if nanB b || nanB c then none else some (compare (key b) (key c)) := by
  show (Ieee.double.read b).order (Ieee.double.read c) = _
  unfold nanB
  by_cases h1 : 9218868437227405312 < b % 9223372036854775808
  · rw [read_nan hb h1]
    simp [h1, Ieee.Datum.order]
  · by_cases h2 : 9218868437227405312 < c % 9223372036854775808
    · rw [read_nan hc h2]
      simp only [h1, h2, decide_true, Bool.or_true, if_true]
      cases Ieee.double.read b <;> rfl
    · simp only [h1, h2, decide_false, Bool.or_false, Bool.false_eq_true, if_false]
      by_cases e1 : b % 9223372036854775808 = 9218868437227405312
      · by_cases e2 : c % 9223372036854775808 = 9218868437227405312
        · rw [read_inf hb e1, read_inf hc e2]
          simp only [Ieee.Datum.order]
          unfold negB key
          by_cases s1 : 9223372036854775808 ≤ b <;> by_cases s2 : 9223372036854775808 ≤ c <;> simp only [s1, s2, decide_true, decide_false, if_true, if_false, e1, e2] <;> rfl
        · rw [read_inf hb e1, read_num hc (by omega)]
          simp only [Ieee.Datum.order]
          unfold negB
          by_cases s1 : 9223372036854775808 ≤ b
          · simp only [s1, decide_true, if_true]
            exact congrArg some ((compare_lt_iff _ _).2 (by unfold key; by_cases q1 : 9223372036854775808 ≤ b <;> by_cases q2 : 9223372036854775808 ≤ c <;> simp only [q1, q2, if_true, if_false] <;> omega)).symm
          · simp only [s1, decide_false, Bool.false_eq_true, if_false]
            exact congrArg some ((compare_gt_iff _ _).2 (by unfold key; by_cases q1 : 9223372036854775808 ≤ b <;> by_cases q2 : 9223372036854775808 ≤ c <;> simp only [q1, q2, if_true, if_false] <;> omega)).symm
      · by_cases e2 : c % 9223372036854775808 = 9218868437227405312
        · rw [read_num hb (by omega), read_inf hc e2]
          simp only [Ieee.Datum.order]
          unfold negB
          by_cases s1 : 9223372036854775808 ≤ c
          · simp only [s1, decide_true, if_true]
            exact congrArg some ((compare_gt_iff _ _).2 (by unfold key; by_cases q1 : 9223372036854775808 ≤ b <;> by_cases q2 : 9223372036854775808 ≤ c <;> simp only [q1, q2, if_true, if_false] <;> omega)).symm
          · simp only [s1, decide_false, Bool.false_eq_true, if_false]
            exact congrArg some ((compare_lt_iff _ _).2 (by unfold key; by_cases q1 : 9223372036854775808 ≤ b <;> by_cases q2 : 9223372036854775808 ≤ c <;> simp only [q1, q2, if_true, if_false] <;> omega)).symm
        · rw [read_num hb (by omega), read_num hc (by omega)]
          simp only [Ieee.Datum.order]
          refine congrArg some ?_
          generalize hr : b % 9223372036854775808 = r
          generalize ht : c % 9223372036854775808 = t
          obtain ⟨m, hm⟩ : ∃ m, m = min (expo r) (expo t) := ⟨_, rfl⟩
          have i1 : ((-1074 + ((expo r : Nat) : Int)) - min (-1074 + ((expo r : Nat) : Int)) (-1074 + ((expo t : Nat) : Int))).toNat = expo r - m := by omega
          have i2 : ((-1074 + ((expo t : Nat) : Int)) - min (-1074 + ((expo r : Nat) : Int)) (-1074 + ((expo t : Nat) : Int))).toNat = expo t - m := by omega
          rw [i1, i2]
          have l1 : m ≤ expo r := by omega
          have l2 : m ≤ expo t := by omega
          have f1 := upTo_lt l1 l2
          have f2 := upTo_lt l2 l1
          have f3 := upTo_eq l1 l2
          have f4 : upTo r m = 0 ↔ r = 0 := upTo_zero
          have f5 : upTo t m = 0 ↔ t = 0 := upTo_zero
          have k1 : key b = if negB b then -(r : Int) else (r : Int) := by unfold key negB; rw [hr]; simp
          have k2 : key c = if negB c then -(t : Int) else (t : Int) := by unfold key negB; rw [ht]; simp
          rw [k1, k2]
          unfold Ieee.signed
          show compare (if negB b then -((upTo r m : Nat) : Int) else ((upTo r m : Nat) : Int)) (if negB c then -((upTo t m : Nat) : Int) else ((upTo t m : Nat) : Int)) = _
          generalize upTo r m = A at *
          generalize upTo t m = B at *
          clear i1 i2 hm l1 l2
          cases negB b <;> cases negB c <;> simp only [if_true, Bool.false_eq_true, if_false] <;> refine compare_congr ?_ ?_ <;> omega

section
variable {b c : Nat}
theorem dec_lt : decide (key b < key c) = (compare (key b) (key c) == .lt) := by rw [Bool.eq_iff_iff, decide_eq_true_eq, beq_iff_eq, compare_lt_iff]
theorem ord_lt (hb : b < 18446744073709551616) (hc : c < 18446744073709551616) : (FloatKind.f64.format.order b c == some .lt) = (!nanB b && !nanB c && decide (key b < key c)) := by
  rw [order_key hb hc, dec_lt]
  generalize compare (key b) (key c) = o
  cases nanB b <;> cases nanB c <;> cases o <;> rfl
end

end Go.Proofs.Ytmjkolkmpnadpaa


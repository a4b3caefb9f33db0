/-
  What Add, Times and Clamp of layer 5 answer, and the document's In and Fits. Condition: the numbers are ints.
-/
import Derived.Test.YtpnkdcakhjejnaaLift
import Derived.WalkKit
import Derived.WalkSpells
import Derived.WalkLawsBesides
import Derived.Lib.Hide
namespace Go.Proofs.Ytpnkdcakhjejnaa
open Go.RowKit

/-- Whether a number is from -(2^53 - 1) to 2^53 - 1. -/
def exN (n : Int) : Bool := decide (-9007199254740991 ≤ n) && decide (n ≤ 9007199254740991)
theorem exN_yes {n : Int} (h : exN n = true) : -9007199254740991 ≤ n ∧ n ≤ 9007199254740991 := by unfold exN at h; simpa using h

set_option maxHeartbeats 400000 in
theorem exact_any (n : Int) (w : World) :
    Calls Try.prog 21 #[.int .i64 n] w fun e w' => e = .returned (.bool (exN n)) ∧ w = w' := by
  unfold exN
  cases h1 : decide (-9007199254740991 ≤ n) <;>
  · go_enter Try.func21, Try.ntmps21
    go_wp2
    go_ret
    exact ⟨rfl, rfl⟩

set_option maxHeartbeats 400000 in
theorem refIn_any (n : Int) (w : World) :
    Calls Try.prog 15 #[.int .i64 n] w fun e w' => e = .returned (.bool (exN n)) ∧ w = w' := by
  unfold exN
  cases h1 : decide (-9007199254740991 ≤ n) <;>
  · go_enter Try.func15, Try.ntmps15
    go_wp2
    go_ret
    exact ⟨rfl, rfl⟩

/-- A number without its sign. -/
def absN (n : Int) : Int := if n < 0 then -n else n
theorem absN_range {n : Int} (h : exN n = true) : 0 ≤ absN n ∧ absN n ≤ 9007199254740991 := by
  have := exN_yes h
  unfold absN
  split <;> omega
theorem absN_zero {n : Int} (h : n ≠ 0) : 1 ≤ absN n ∨ n < -9223372036854775808 := by unfold absN; split <;> omega

set_option maxHeartbeats 400000 in
theorem size_any (n : Int) (w : World) (h : exN n = true) :
    Calls Try.prog 22 #[.int .i64 n] w fun e w' => e = .returned (.int .i64 (absN n)) ∧ w = w' := by
  obtain ⟨g1, g2⟩ := exN_yes h
  clear h
  by_cases h1 : n < 0
  · have e : absN n = -n := by unfold absN; rw [if_pos h1]
    rw [e]
    go_enter Try.func22, Try.ntmps22
    go_wp2
    go_ret
    exact ⟨rfl, rfl⟩
  · have e : absN n = n := by unfold absN; rw [if_neg h1]
    rw [e]
    go_enter Try.func22, Try.ntmps22
    go_wp2
    go_ret
    exact ⟨rfl, rfl⟩

/-- Whether the product of two numbers is not too great, both being not. -/
def fitN (a b : Int) : Bool := b == 0 || decide (absN a ≤ 9007199254740991 / absN b)
theorem abs_mul (a b : Int) : absN (a * b) = absN a * absN b := by
  unfold absN
  by_cases ha : a < 0 <;> by_cases hb : b < 0
  · have := Int.mul_pos_of_neg_of_neg ha hb
    rw [if_neg (by omega), if_pos ha, if_pos hb]
    rw [Int.neg_mul_neg]
  · by_cases h0 : b = 0
    · subst h0; simp
    · have := Int.mul_neg_of_neg_of_pos ha (show 0 < b by omega)
      rw [if_pos this, if_pos ha, if_neg hb, Int.neg_mul]
  · by_cases h0 : a = 0
    · subst h0; simp
    · have := Int.mul_neg_of_pos_of_neg (show 0 < a by omega) hb
      rw [if_pos this, if_neg ha, if_pos hb, Int.mul_neg]
  · have := Int.mul_nonneg (show 0 ≤ a by omega) (show 0 ≤ b by omega)
    rw [if_neg (by omega), if_neg ha, if_neg hb]
theorem fitN_range {a b : Int} (h : fitN a b = true) : -9007199254740991 ≤ a * b ∧ a * b ≤ 9007199254740991 := by
  have key : absN (a * b) ≤ 9007199254740991 := by
    by_cases h0 : b = 0
    · subst h0; simp [absN]
    · have hb : 0 < absN b := by unfold absN; split <;> omega
      unfold fitN at h
      have e : (b == 0) = false := by simpa using h0
      rw [e, Bool.false_or, decide_eq_true_eq, Int.le_ediv_iff_mul_le hb] at h
      rw [abs_mul]
      exact h
  unfold absN at key
  split at key <;> omega

set_option maxHeartbeats 400000 in
theorem add_yes (a b : Int) (w : World) (ha : exN a = true) (hb : exN b = true) (hc : exN (a + b) = true) :
    Calls Try.prog 12 #[.int .i64 a, .int .i64 b] w fun e w' => e = .returned (.tuple #[.int .i64 (a + b), .bool true]) ∧ w = w' := by
  obtain ⟨a1, a2⟩ := exN_yes ha
  obtain ⟨b1, b2⟩ := exN_yes hb
  have HA := Lib.hid (fun W => exact_any a W)
  have HB := Lib.hid (fun W => exact_any b W)
  have HC := Lib.hid (fun W => exact_any (a + b) W)
  rw [ha] at HA
  rw [hb] at HB
  rw [hc] at HC
  clear ha hb hc
  go_enter Try.func12, Try.ntmps12
  go_wp2_with (first
    | (go_at_call 21; with_reducible refine (HA.out _).mono ?_; rintro e w' ⟨rfl, rfl⟩)
    | (go_at_call 21; with_reducible refine (HB.out _).mono ?_; rintro e w' ⟨rfl, rfl⟩)
    | (go_at_call 21; with_reducible refine (HC.out _).mono ?_; rintro e w' ⟨rfl, rfl⟩))
  go_ret2
  exact ⟨rfl, rfl⟩

set_option maxHeartbeats 400000 in
theorem add_no (a b : Int) (w : World) (h : (exN a && exN b && exN (a + b)) = false) :
    Calls Try.prog 12 #[.int .i64 a, .int .i64 b] w fun e w' => e = .returned (.tuple #[.int .i64 0, .bool false]) ∧ w = w' := by
  have HA := Lib.hid (fun W => exact_any a W)
  have HB := Lib.hid (fun W => exact_any b W)
  have HC := Lib.hid (fun W => exact_any (a + b) W)
  cases ha : exN a
  · rw [ha] at HA
    clear ha h
    go_enter Try.func12, Try.ntmps12
    go_wp2_with (go_at_call 21; with_reducible refine (HA.out _).mono ?_; rintro e w' ⟨rfl, rfl⟩)
    go_ret2
    exact ⟨rfl, rfl⟩
  cases hb : exN b
  · rw [ha] at HA
    rw [hb] at HB
    clear ha hb h
    go_enter Try.func12, Try.ntmps12
    go_wp2_with (first
      | (go_at_call 21; with_reducible refine (HA.out _).mono ?_; rintro e w' ⟨rfl, rfl⟩)
      | (go_at_call 21; with_reducible refine (HB.out _).mono ?_; rintro e w' ⟨rfl, rfl⟩))
    go_ret2
    exact ⟨rfl, rfl⟩
  · obtain ⟨a1, a2⟩ := exN_yes ha
    obtain ⟨b1, b2⟩ := exN_yes hb
    have hc : exN (a + b) = false := by simpa [ha, hb] using h
    rw [ha] at HA
    rw [hb] at HB
    rw [hc] at HC
    clear ha hb hc h
    go_enter Try.func12, Try.ntmps12
    go_wp2_with (first
      | (go_at_call 21; with_reducible refine (HA.out _).mono ?_; rintro e w' ⟨rfl, rfl⟩)
      | (go_at_call 21; with_reducible refine (HB.out _).mono ?_; rintro e w' ⟨rfl, rfl⟩)
      | (go_at_call 21; with_reducible refine (HC.out _).mono ?_; rintro e w' ⟨rfl, rfl⟩))
    go_ret2
    exact ⟨rfl, rfl⟩

/-- What Clamp answers. -/
def claN (n l h : Int) : Int := if n < l then l else if h < n then h else n

set_option maxHeartbeats 400000 in
theorem clamp_any (n l h : Int) (w : World) :
    Calls Try.prog 14 #[.int .i64 n, .int .i64 l, .int .i64 h] w fun e w' => e = .returned (.int .i64 (claN n l h)) ∧ w = w' := by
  by_cases h1 : n < l
  · have HV : claN n l h = l := by unfold claN; rw [if_pos h1]
    rw [HV]
    clear HV
    have e1 : decide (n < l) = true := by simpa using h1
    go_enter Try.func14, Try.ntmps14
    go_wp2
    go_ret
    exact ⟨rfl, rfl⟩
  · have e1 : decide (n < l) = false := by simpa using h1
    by_cases h2 : h < n
    · have HV : claN n l h = h := by unfold claN; rw [if_neg h1, if_pos h2]
      rw [HV]
      clear HV
      have e2 : decide (h < n) = true := by simpa using h2
      go_enter Try.func14, Try.ntmps14
      go_wp2
      go_ret
      exact ⟨rfl, rfl⟩
    · have HV : claN n l h = n := by unfold claN; rw [if_neg h1, if_neg h2]
      rw [HV]
      clear HV
      have e2 : decide (h < n) = false := by simpa using h2
      go_enter Try.func14, Try.ntmps14
      go_wp2
      go_ret
      exact ⟨rfl, rfl⟩

set_option maxHeartbeats 400000 in
theorem fits_any (a b : Int) (w : World) (ha : exN a = true) (hb : exN b = true) :
    Calls Try.prog 16 #[.int .i64 a, .int .i64 b] w fun e w' => e = .returned (.bool (fitN a b)) ∧ w = w' := by
  obtain ⟨a1, a2⟩ := exN_yes ha
  obtain ⟨b1, b2⟩ := exN_yes hb
  have HA : absN a = if a < 0 then -a else a := rfl
  have HB : absN b = if b < 0 then -b else b := rfl
  clear ha hb
  by_cases h0 : b = 0
  · have e : fitN a b = true := by unfold fitN; rw [h0]; rfl
    rw [e]
    subst h0
    clear HA HB e
    by_cases h1 : a < 0 <;>
    · go_enter Try.func16, Try.ntmps16
      go_wp2
      go_ret
      exact ⟨rfl, rfl⟩
  · have e : fitN a b = decide (absN a ≤ 9007199254740991 / absN b) := by
      unfold fitN
      have : (b == 0) = false := by simpa using h0
      rw [this, Bool.false_or]
    rw [e]
    clear e
    by_cases h2 : b < 0
    · obtain ⟨c, hc⟩ : ∃ c, c = -b := ⟨_, rfl⟩
      rw [if_pos h2, ← hc] at HB
      obtain rfl : b = -c := by omega
      have e1 : (c == 0) = false := by rw [beq_eq_false_iff_ne]; omega
      have hc1 : 1 ≤ c := by omega
      rw [HB]
      clear HB hc h0
      by_cases h1 : a < 0
      · rw [if_pos h1] at HA
        rw [HA]
        clear HA
        go_enter Try.func16, Try.ntmps16
        go_wp2
        go_ret
        exact ⟨rfl, rfl⟩
      · rw [if_neg h1] at HA
        rw [HA]
        clear HA
        go_enter Try.func16, Try.ntmps16
        go_wp2
        go_ret
        exact ⟨rfl, rfl⟩
    · rw [if_neg h2] at HB
      have e1 : (b == 0) = false := by rw [beq_eq_false_iff_ne]; omega
      have hb1 : 1 ≤ b := by omega
      rw [HB]
      clear HB h0
      by_cases h1 : a < 0
      · rw [if_pos h1] at HA
        rw [HA]
        clear HA
        go_enter Try.func16, Try.ntmps16
        go_wp2
        go_ret
        exact ⟨rfl, rfl⟩
      · rw [if_neg h1] at HA
        rw [HA]
        clear HA
        go_enter Try.func16, Try.ntmps16
        go_wp2
        go_ret
        exact ⟨rfl, rfl⟩

set_option maxHeartbeats 400000 in
theorem times_yes (a b : Int) (w : World) (ha : exN a = true) (hb : exN b = true) (hf : fitN a b = true) :
    Calls Try.prog 13 #[.int .i64 a, .int .i64 b] w fun e w' => e = .returned (.tuple #[.int .i64 (a * b), .bool true]) ∧ w = w' := by
  obtain ⟨m1, m2⟩ := fitN_range hf
  have HA := Lib.hid (fun W => exact_any a W)
  have HB := Lib.hid (fun W => exact_any b W)
  have SA := Lib.hid (fun W => size_any a W ha)
  have SB := Lib.hid (fun W => size_any b W hb)
  rw [ha] at HA
  rw [hb] at HB
  have ra := absN_range ha
  have rb := absN_range hb
  clear ha hb
  by_cases h0 : b = 0
  · subst h0
    clear SA SB hf ra rb
    go_enter Try.func13, Try.ntmps13
    go_wp2_with (first
      | (go_at_call 21; with_reducible refine (HA.out _).mono ?_; rintro e w' ⟨rfl, rfl⟩)
      | (go_at_call 21; with_reducible refine (HB.out _).mono ?_; rintro e w' ⟨rfl, rfl⟩))
    go_ret2
    exact ⟨by first | done | rfl | (simp), rfl⟩
  · have e0 : (b == 0) = false := by simpa using h0
    have hb1 : 1 ≤ absN b := by unfold absN; split <;> omega
    unfold fitN at hf
    rw [e0, Bool.false_or, decide_eq_true_eq] at hf
    obtain ⟨x, hx⟩ : ∃ x, x = absN a := ⟨_, rfl⟩
    obtain ⟨y, hy⟩ : ∃ y, y = absN b := ⟨_, rfl⟩
    obtain ⟨p, hp⟩ : ∃ p, p = a * b := ⟨_, rfl⟩
    rw [← hx] at hf SA ra
    rw [← hy] at hf SB rb hb1
    have e1 : decide (9007199254740991 / y < x) = false := by simp; omega
    clear hx hy hp hf
    go_enter Try.func13, Try.ntmps13
    go_wp2_with (first
      | (go_at_call 21; with_reducible refine (HA.out _).mono ?_; rintro e w' ⟨rfl, rfl⟩)
      | (go_at_call 21; with_reducible refine (HB.out _).mono ?_; rintro e w' ⟨rfl, rfl⟩)
      | (go_at_call 22; with_reducible refine (SA.out _).mono ?_; rintro e w' ⟨rfl, rfl⟩)
      | (go_at_call 22; with_reducible refine (SB.out _).mono ?_; rintro e w' ⟨rfl, rfl⟩))
    go_ret2
    exact ⟨rfl, rfl⟩

set_option maxHeartbeats 400000 in
theorem times_no (a b : Int) (w : World) (h : (exN a && exN b && fitN a b) = false) :
    Calls Try.prog 13 #[.int .i64 a, .int .i64 b] w fun e w' => e = .returned (.tuple #[.int .i64 0, .bool false]) ∧ w = w' := by
  have HA := Lib.hid (fun W => exact_any a W)
  have HB := Lib.hid (fun W => exact_any b W)
  cases ha : exN a
  · rw [ha] at HA
    clear ha h
    go_enter Try.func13, Try.ntmps13
    go_wp2_with (go_at_call 21; with_reducible refine (HA.out _).mono ?_; rintro e w' ⟨rfl, rfl⟩)
    go_ret2
    exact ⟨rfl, rfl⟩
  cases hb : exN b
  · rw [ha] at HA
    rw [hb] at HB
    clear ha hb h
    go_enter Try.func13, Try.ntmps13
    go_wp2_with (first
      | (go_at_call 21; with_reducible refine (HA.out _).mono ?_; rintro e w' ⟨rfl, rfl⟩)
      | (go_at_call 21; with_reducible refine (HB.out _).mono ?_; rintro e w' ⟨rfl, rfl⟩))
    go_ret2
    exact ⟨rfl, rfl⟩
  · have hf : fitN a b = false := by simpa [ha, hb] using h
    have SA := Lib.hid (fun W => size_any a W ha)
    have SB := Lib.hid (fun W => size_any b W hb)
    have ra := absN_range ha
    have rb := absN_range hb
    rw [ha] at HA
    rw [hb] at HB
    unfold fitN at hf
    rw [Bool.or_eq_false_iff] at hf
    obtain ⟨e0, h1⟩ := hf
    rw [decide_eq_false_iff_not] at h1
    have h0 : b ≠ 0 := by simpa using e0
    have hb1 : 1 ≤ absN b := by unfold absN; split <;> omega
    obtain ⟨x, hx⟩ : ∃ x, x = absN a := ⟨_, rfl⟩
    obtain ⟨y, hy⟩ : ∃ y, y = absN b := ⟨_, rfl⟩
    rw [← hx] at h1 SA ra
    rw [← hy] at h1 SB rb hb1
    have e1 : decide (9007199254740991 / y < x) = true := by simp; omega
    clear hx hy h1 ha hb h
    go_enter Try.func13, Try.ntmps13
    go_wp2_with (first
      | (go_at_call 21; with_reducible refine (HA.out _).mono ?_; rintro e w' ⟨rfl, rfl⟩)
      | (go_at_call 21; with_reducible refine (HB.out _).mono ?_; rintro e w' ⟨rfl, rfl⟩)
      | (go_at_call 22; with_reducible refine (SA.out _).mono ?_; rintro e w' ⟨rfl, rfl⟩)
      | (go_at_call 22; with_reducible refine (SB.out _).mono ?_; rintro e w' ⟨rfl, rfl⟩))
    go_ret2
    exact ⟨rfl, rfl⟩

end Go.Proofs.Ytpnkdcakhjejnaa

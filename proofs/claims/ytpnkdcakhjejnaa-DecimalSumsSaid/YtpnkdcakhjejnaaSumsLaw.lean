/-
  The law DecimalSums returns true of any three numbers. Condition: they are ints.
-/
import Derived.Test.YtpnkdcakhjejnaaSums
import Derived.Test.YtpnkdcakhjejnaaRef5
namespace Go.Proofs.Ytpnkdcakhjejnaa
open Go.RowKit

/-- Which way a number is brought between two others. -/
inductive Way (a b c : Int) : Int → Prop
  | low : a < b → Way a b c b
  | high : ¬ a < b → c < a → Way a b c c
  | same : ¬ a < b → ¬ c < a → Way a b c a
theorem way_of (a b c : Int) : Way a b c (claN a b c) := by
  unfold claN
  split
  · exact .low (by assumption)
  · split
    · exact .high (by assumption) (by assumption)
    · exact .same (by assumption) (by assumption)

set_option maxHeartbeats 1000000 in
theorem sums_low_a (a b c : Int) (w : World) (h1 : a < b) 
    (HS : Hid (∀ W, Calls Try.prog 12 #[.int .i64 a, .int .i64 b] W fun e w' => e = .returned (.tuple #[.int .i64 0, .bool false]) ∧ W = w'))
    (HP : Hid (∀ W, Calls Try.prog 13 #[.int .i64 a, .int .i64 b] W fun e w' => e = .returned (.tuple #[.int .i64 0, .bool false]) ∧ W = w'))
    (HK : Hid (∀ W, Calls Try.prog 14 #[.int .i64 a, .int .i64 b, .int .i64 c] W fun e w' => e = .returned (.int .i64 b) ∧ W = w'))
    (HI0 : Hid (∀ W, Calls Try.prog 15 #[.int .i64 a] W fun e w' => e = .returned (.bool false) ∧ W = w')) :
    Calls Try.prog 4 #[.int .i64 a, .int .i64 b, .int .i64 c] w fun e w' => e = .returned (.bool true) ∧ Below w.heap.size w w' := by
  go_enter Try.func4, Try.ntmps4
  go_wp2_with (first
    | (go_at_call 12; refine (HS.out _).mono ?_; rintro e w' ⟨rfl, rfl⟩)
    | (go_at_call 13; refine (HP.out _).mono ?_; rintro e w' ⟨rfl, rfl⟩)
    | (go_at_call 14; refine (HK.out _).mono ?_; rintro e w' ⟨rfl, rfl⟩)
    | (go_at_call 15; with_reducible refine (HI0.out _).mono ?_; rintro e w' ⟨rfl, rfl⟩)
    | (go_at_call 11; refine (lives_any _).mono ?_; rintro e w' ⟨rfl, hb⟩))
  go_ret
  exact ⟨rfl, hb⟩

set_option maxHeartbeats 1000000 in
theorem sums_low_b (a b c : Int) (w : World) (h1 : a < b) 
    (HS : Hid (∀ W, Calls Try.prog 12 #[.int .i64 a, .int .i64 b] W fun e w' => e = .returned (.tuple #[.int .i64 0, .bool false]) ∧ W = w'))
    (HP : Hid (∀ W, Calls Try.prog 13 #[.int .i64 a, .int .i64 b] W fun e w' => e = .returned (.tuple #[.int .i64 0, .bool false]) ∧ W = w'))
    (HK : Hid (∀ W, Calls Try.prog 14 #[.int .i64 a, .int .i64 b, .int .i64 c] W fun e w' => e = .returned (.int .i64 b) ∧ W = w'))
    (HI0 : Hid (∀ W, Calls Try.prog 15 #[.int .i64 a] W fun e w' => e = .returned (.bool true) ∧ W = w'))
    (HI1 : Hid (∀ W, Calls Try.prog 15 #[.int .i64 b] W fun e w' => e = .returned (.bool false) ∧ W = w')) :
    Calls Try.prog 4 #[.int .i64 a, .int .i64 b, .int .i64 c] w fun e w' => e = .returned (.bool true) ∧ Below w.heap.size w w' := by
  go_enter Try.func4, Try.ntmps4
  go_wp2_with (first
    | (go_at_call 12; refine (HS.out _).mono ?_; rintro e w' ⟨rfl, rfl⟩)
    | (go_at_call 13; refine (HP.out _).mono ?_; rintro e w' ⟨rfl, rfl⟩)
    | (go_at_call 14; refine (HK.out _).mono ?_; rintro e w' ⟨rfl, rfl⟩)
    | (go_at_call 15; with_reducible refine (HI0.out _).mono ?_; rintro e w' ⟨rfl, rfl⟩)
    | (go_at_call 15; with_reducible refine (HI1.out _).mono ?_; rintro e w' ⟨rfl, rfl⟩)
    | (go_at_call 11; refine (lives_any _).mono ?_; rintro e w' ⟨rfl, hb⟩))
  go_ret
  exact ⟨rfl, hb⟩

set_option maxHeartbeats 1000000 in
theorem sums_low_tt (a b c : Int) (w : World) (h1 : a < b) (a1 : -9007199254740991 ≤ a) (a2 : a ≤ 9007199254740991) (b1 : -9007199254740991 ≤ b) (b2 : b ≤ 9007199254740991) (m1 : -9007199254740991 ≤ a * b) (m2 : a * b ≤ 9007199254740991)
    (HS : Hid (∀ W, Calls Try.prog 12 #[.int .i64 a, .int .i64 b] W fun e w' => e = .returned (.tuple #[.int .i64 (a + b), .bool true]) ∧ W = w'))
    (HP : Hid (∀ W, Calls Try.prog 13 #[.int .i64 a, .int .i64 b] W fun e w' => e = .returned (.tuple #[.int .i64 (a * b), .bool true]) ∧ W = w'))
    (HK : Hid (∀ W, Calls Try.prog 14 #[.int .i64 a, .int .i64 b, .int .i64 c] W fun e w' => e = .returned (.int .i64 b) ∧ W = w'))
    (HI0 : Hid (∀ W, Calls Try.prog 15 #[.int .i64 a] W fun e w' => e = .returned (.bool true) ∧ W = w'))
    (HI1 : Hid (∀ W, Calls Try.prog 15 #[.int .i64 b] W fun e w' => e = .returned (.bool true) ∧ W = w'))
    (HI2 : Hid (∀ W, Calls Try.prog 15 #[.int .i64 (a + b)] W fun e w' => e = .returned (.bool true) ∧ W = w'))
    (HF : Hid (∀ W, Calls Try.prog 16 #[.int .i64 a, .int .i64 b] W fun e w' => e = .returned (.bool true) ∧ W = w')) :
    Calls Try.prog 4 #[.int .i64 a, .int .i64 b, .int .i64 c] w fun e w' => e = .returned (.bool true) ∧ Below w.heap.size w w' := by
  go_enter Try.func4, Try.ntmps4
  go_wp2_with (first
    | (go_at_call 12; refine (HS.out _).mono ?_; rintro e w' ⟨rfl, rfl⟩)
    | (go_at_call 13; refine (HP.out _).mono ?_; rintro e w' ⟨rfl, rfl⟩)
    | (go_at_call 14; refine (HK.out _).mono ?_; rintro e w' ⟨rfl, rfl⟩)
    | (go_at_call 15; with_reducible refine (HI0.out _).mono ?_; rintro e w' ⟨rfl, rfl⟩)
    | (go_at_call 15; with_reducible refine (HI1.out _).mono ?_; rintro e w' ⟨rfl, rfl⟩)
    | (go_at_call 15; with_reducible refine (HI2.out _).mono ?_; rintro e w' ⟨rfl, rfl⟩)
    | (go_at_call 16; refine (HF.out _).mono ?_; rintro e w' ⟨rfl, rfl⟩)
    | (go_at_call 11; refine (lives_any _).mono ?_; rintro e w' ⟨rfl, hb⟩))
  go_ret
  exact ⟨rfl, hb⟩

set_option maxHeartbeats 1000000 in
theorem sums_low_tf (a b c : Int) (w : World) (h1 : a < b) (a1 : -9007199254740991 ≤ a) (a2 : a ≤ 9007199254740991) (b1 : -9007199254740991 ≤ b) (b2 : b ≤ 9007199254740991)
    (HS : Hid (∀ W, Calls Try.prog 12 #[.int .i64 a, .int .i64 b] W fun e w' => e = .returned (.tuple #[.int .i64 (a + b), .bool true]) ∧ W = w'))
    (HP : Hid (∀ W, Calls Try.prog 13 #[.int .i64 a, .int .i64 b] W fun e w' => e = .returned (.tuple #[.int .i64 0, .bool false]) ∧ W = w'))
    (HK : Hid (∀ W, Calls Try.prog 14 #[.int .i64 a, .int .i64 b, .int .i64 c] W fun e w' => e = .returned (.int .i64 b) ∧ W = w'))
    (HI0 : Hid (∀ W, Calls Try.prog 15 #[.int .i64 a] W fun e w' => e = .returned (.bool true) ∧ W = w'))
    (HI1 : Hid (∀ W, Calls Try.prog 15 #[.int .i64 b] W fun e w' => e = .returned (.bool true) ∧ W = w'))
    (HI2 : Hid (∀ W, Calls Try.prog 15 #[.int .i64 (a + b)] W fun e w' => e = .returned (.bool true) ∧ W = w'))
    (HF : Hid (∀ W, Calls Try.prog 16 #[.int .i64 a, .int .i64 b] W fun e w' => e = .returned (.bool false) ∧ W = w')) :
    Calls Try.prog 4 #[.int .i64 a, .int .i64 b, .int .i64 c] w fun e w' => e = .returned (.bool true) ∧ Below w.heap.size w w' := by
  go_enter Try.func4, Try.ntmps4
  go_wp2_with (first
    | (go_at_call 12; refine (HS.out _).mono ?_; rintro e w' ⟨rfl, rfl⟩)
    | (go_at_call 13; refine (HP.out _).mono ?_; rintro e w' ⟨rfl, rfl⟩)
    | (go_at_call 14; refine (HK.out _).mono ?_; rintro e w' ⟨rfl, rfl⟩)
    | (go_at_call 15; with_reducible refine (HI0.out _).mono ?_; rintro e w' ⟨rfl, rfl⟩)
    | (go_at_call 15; with_reducible refine (HI1.out _).mono ?_; rintro e w' ⟨rfl, rfl⟩)
    | (go_at_call 15; with_reducible refine (HI2.out _).mono ?_; rintro e w' ⟨rfl, rfl⟩)
    | (go_at_call 16; refine (HF.out _).mono ?_; rintro e w' ⟨rfl, rfl⟩)
    | (go_at_call 11; refine (lives_any _).mono ?_; rintro e w' ⟨rfl, hb⟩))
  go_ret
  exact ⟨rfl, hb⟩

set_option maxHeartbeats 1000000 in
theorem sums_low_ft (a b c : Int) (w : World) (h1 : a < b) (a1 : -9007199254740991 ≤ a) (a2 : a ≤ 9007199254740991) (b1 : -9007199254740991 ≤ b) (b2 : b ≤ 9007199254740991) (m1 : -9007199254740991 ≤ a * b) (m2 : a * b ≤ 9007199254740991)
    (HS : Hid (∀ W, Calls Try.prog 12 #[.int .i64 a, .int .i64 b] W fun e w' => e = .returned (.tuple #[.int .i64 0, .bool false]) ∧ W = w'))
    (HP : Hid (∀ W, Calls Try.prog 13 #[.int .i64 a, .int .i64 b] W fun e w' => e = .returned (.tuple #[.int .i64 (a * b), .bool true]) ∧ W = w'))
    (HK : Hid (∀ W, Calls Try.prog 14 #[.int .i64 a, .int .i64 b, .int .i64 c] W fun e w' => e = .returned (.int .i64 b) ∧ W = w'))
    (HI0 : Hid (∀ W, Calls Try.prog 15 #[.int .i64 a] W fun e w' => e = .returned (.bool true) ∧ W = w'))
    (HI1 : Hid (∀ W, Calls Try.prog 15 #[.int .i64 b] W fun e w' => e = .returned (.bool true) ∧ W = w'))
    (HI2 : Hid (∀ W, Calls Try.prog 15 #[.int .i64 (a + b)] W fun e w' => e = .returned (.bool false) ∧ W = w'))
    (HF : Hid (∀ W, Calls Try.prog 16 #[.int .i64 a, .int .i64 b] W fun e w' => e = .returned (.bool true) ∧ W = w')) :
    Calls Try.prog 4 #[.int .i64 a, .int .i64 b, .int .i64 c] w fun e w' => e = .returned (.bool true) ∧ Below w.heap.size w w' := by
  go_enter Try.func4, Try.ntmps4
  go_wp2_with (first
    | (go_at_call 12; refine (HS.out _).mono ?_; rintro e w' ⟨rfl, rfl⟩)
    | (go_at_call 13; refine (HP.out _).mono ?_; rintro e w' ⟨rfl, rfl⟩)
    | (go_at_call 14; refine (HK.out _).mono ?_; rintro e w' ⟨rfl, rfl⟩)
    | (go_at_call 15; with_reducible refine (HI0.out _).mono ?_; rintro e w' ⟨rfl, rfl⟩)
    | (go_at_call 15; with_reducible refine (HI1.out _).mono ?_; rintro e w' ⟨rfl, rfl⟩)
    | (go_at_call 15; with_reducible refine (HI2.out _).mono ?_; rintro e w' ⟨rfl, rfl⟩)
    | (go_at_call 16; refine (HF.out _).mono ?_; rintro e w' ⟨rfl, rfl⟩)
    | (go_at_call 11; refine (lives_any _).mono ?_; rintro e w' ⟨rfl, hb⟩))
  go_ret
  exact ⟨rfl, hb⟩

set_option maxHeartbeats 1000000 in
theorem sums_low_ff (a b c : Int) (w : World) (h1 : a < b) (a1 : -9007199254740991 ≤ a) (a2 : a ≤ 9007199254740991) (b1 : -9007199254740991 ≤ b) (b2 : b ≤ 9007199254740991)
    (HS : Hid (∀ W, Calls Try.prog 12 #[.int .i64 a, .int .i64 b] W fun e w' => e = .returned (.tuple #[.int .i64 0, .bool false]) ∧ W = w'))
    (HP : Hid (∀ W, Calls Try.prog 13 #[.int .i64 a, .int .i64 b] W fun e w' => e = .returned (.tuple #[.int .i64 0, .bool false]) ∧ W = w'))
    (HK : Hid (∀ W, Calls Try.prog 14 #[.int .i64 a, .int .i64 b, .int .i64 c] W fun e w' => e = .returned (.int .i64 b) ∧ W = w'))
    (HI0 : Hid (∀ W, Calls Try.prog 15 #[.int .i64 a] W fun e w' => e = .returned (.bool true) ∧ W = w'))
    (HI1 : Hid (∀ W, Calls Try.prog 15 #[.int .i64 b] W fun e w' => e = .returned (.bool true) ∧ W = w'))
    (HI2 : Hid (∀ W, Calls Try.prog 15 #[.int .i64 (a + b)] W fun e w' => e = .returned (.bool false) ∧ W = w'))
    (HF : Hid (∀ W, Calls Try.prog 16 #[.int .i64 a, .int .i64 b] W fun e w' => e = .returned (.bool false) ∧ W = w')) :
    Calls Try.prog 4 #[.int .i64 a, .int .i64 b, .int .i64 c] w fun e w' => e = .returned (.bool true) ∧ Below w.heap.size w w' := by
  go_enter Try.func4, Try.ntmps4
  go_wp2_with (first
    | (go_at_call 12; refine (HS.out _).mono ?_; rintro e w' ⟨rfl, rfl⟩)
    | (go_at_call 13; refine (HP.out _).mono ?_; rintro e w' ⟨rfl, rfl⟩)
    | (go_at_call 14; refine (HK.out _).mono ?_; rintro e w' ⟨rfl, rfl⟩)
    | (go_at_call 15; with_reducible refine (HI0.out _).mono ?_; rintro e w' ⟨rfl, rfl⟩)
    | (go_at_call 15; with_reducible refine (HI1.out _).mono ?_; rintro e w' ⟨rfl, rfl⟩)
    | (go_at_call 15; with_reducible refine (HI2.out _).mono ?_; rintro e w' ⟨rfl, rfl⟩)
    | (go_at_call 16; refine (HF.out _).mono ?_; rintro e w' ⟨rfl, rfl⟩)
    | (go_at_call 11; refine (lives_any _).mono ?_; rintro e w' ⟨rfl, hb⟩))
  go_ret
  exact ⟨rfl, hb⟩

set_option maxHeartbeats 1000000 in
theorem sums_high_a (a b c : Int) (w : World) (e1 : decide (a < b) = false) (e2 : decide (c < a) = true) 
    (HS : Hid (∀ W, Calls Try.prog 12 #[.int .i64 a, .int .i64 b] W fun e w' => e = .returned (.tuple #[.int .i64 0, .bool false]) ∧ W = w'))
    (HP : Hid (∀ W, Calls Try.prog 13 #[.int .i64 a, .int .i64 b] W fun e w' => e = .returned (.tuple #[.int .i64 0, .bool false]) ∧ W = w'))
    (HK : Hid (∀ W, Calls Try.prog 14 #[.int .i64 a, .int .i64 b, .int .i64 c] W fun e w' => e = .returned (.int .i64 c) ∧ W = w'))
    (HI0 : Hid (∀ W, Calls Try.prog 15 #[.int .i64 a] W fun e w' => e = .returned (.bool false) ∧ W = w')) :
    Calls Try.prog 4 #[.int .i64 a, .int .i64 b, .int .i64 c] w fun e w' => e = .returned (.bool true) ∧ Below w.heap.size w w' := by
  go_enter Try.func4, Try.ntmps4
  go_wp2_with (first
    | (go_at_call 12; refine (HS.out _).mono ?_; rintro e w' ⟨rfl, rfl⟩)
    | (go_at_call 13; refine (HP.out _).mono ?_; rintro e w' ⟨rfl, rfl⟩)
    | (go_at_call 14; refine (HK.out _).mono ?_; rintro e w' ⟨rfl, rfl⟩)
    | (go_at_call 15; with_reducible refine (HI0.out _).mono ?_; rintro e w' ⟨rfl, rfl⟩)
    | (go_at_call 11; refine (lives_any _).mono ?_; rintro e w' ⟨rfl, hb⟩))
  go_ret
  exact ⟨rfl, hb⟩

set_option maxHeartbeats 1000000 in
theorem sums_high_b (a b c : Int) (w : World) (e1 : decide (a < b) = false) (e2 : decide (c < a) = true) 
    (HS : Hid (∀ W, Calls Try.prog 12 #[.int .i64 a, .int .i64 b] W fun e w' => e = .returned (.tuple #[.int .i64 0, .bool false]) ∧ W = w'))
    (HP : Hid (∀ W, Calls Try.prog 13 #[.int .i64 a, .int .i64 b] W fun e w' => e = .returned (.tuple #[.int .i64 0, .bool false]) ∧ W = w'))
    (HK : Hid (∀ W, Calls Try.prog 14 #[.int .i64 a, .int .i64 b, .int .i64 c] W fun e w' => e = .returned (.int .i64 c) ∧ W = w'))
    (HI0 : Hid (∀ W, Calls Try.prog 15 #[.int .i64 a] W fun e w' => e = .returned (.bool true) ∧ W = w'))
    (HI1 : Hid (∀ W, Calls Try.prog 15 #[.int .i64 b] W fun e w' => e = .returned (.bool false) ∧ W = w')) :
    Calls Try.prog 4 #[.int .i64 a, .int .i64 b, .int .i64 c] w fun e w' => e = .returned (.bool true) ∧ Below w.heap.size w w' := by
  go_enter Try.func4, Try.ntmps4
  go_wp2_with (first
    | (go_at_call 12; refine (HS.out _).mono ?_; rintro e w' ⟨rfl, rfl⟩)
    | (go_at_call 13; refine (HP.out _).mono ?_; rintro e w' ⟨rfl, rfl⟩)
    | (go_at_call 14; refine (HK.out _).mono ?_; rintro e w' ⟨rfl, rfl⟩)
    | (go_at_call 15; with_reducible refine (HI0.out _).mono ?_; rintro e w' ⟨rfl, rfl⟩)
    | (go_at_call 15; with_reducible refine (HI1.out _).mono ?_; rintro e w' ⟨rfl, rfl⟩)
    | (go_at_call 11; refine (lives_any _).mono ?_; rintro e w' ⟨rfl, hb⟩))
  go_ret
  exact ⟨rfl, hb⟩

set_option maxHeartbeats 1000000 in
theorem sums_high_tt (a b c : Int) (w : World) (e1 : decide (a < b) = false) (e2 : decide (c < a) = true) (a1 : -9007199254740991 ≤ a) (a2 : a ≤ 9007199254740991) (b1 : -9007199254740991 ≤ b) (b2 : b ≤ 9007199254740991) (m1 : -9007199254740991 ≤ a * b) (m2 : a * b ≤ 9007199254740991)
    (HS : Hid (∀ W, Calls Try.prog 12 #[.int .i64 a, .int .i64 b] W fun e w' => e = .returned (.tuple #[.int .i64 (a + b), .bool true]) ∧ W = w'))
    (HP : Hid (∀ W, Calls Try.prog 13 #[.int .i64 a, .int .i64 b] W fun e w' => e = .returned (.tuple #[.int .i64 (a * b), .bool true]) ∧ W = w'))
    (HK : Hid (∀ W, Calls Try.prog 14 #[.int .i64 a, .int .i64 b, .int .i64 c] W fun e w' => e = .returned (.int .i64 c) ∧ W = w'))
    (HI0 : Hid (∀ W, Calls Try.prog 15 #[.int .i64 a] W fun e w' => e = .returned (.bool true) ∧ W = w'))
    (HI1 : Hid (∀ W, Calls Try.prog 15 #[.int .i64 b] W fun e w' => e = .returned (.bool true) ∧ W = w'))
    (HI2 : Hid (∀ W, Calls Try.prog 15 #[.int .i64 (a + b)] W fun e w' => e = .returned (.bool true) ∧ W = w'))
    (HF : Hid (∀ W, Calls Try.prog 16 #[.int .i64 a, .int .i64 b] W fun e w' => e = .returned (.bool true) ∧ W = w')) :
    Calls Try.prog 4 #[.int .i64 a, .int .i64 b, .int .i64 c] w fun e w' => e = .returned (.bool true) ∧ Below w.heap.size w w' := by
  go_enter Try.func4, Try.ntmps4
  go_wp2_with (first
    | (go_at_call 12; refine (HS.out _).mono ?_; rintro e w' ⟨rfl, rfl⟩)
    | (go_at_call 13; refine (HP.out _).mono ?_; rintro e w' ⟨rfl, rfl⟩)
    | (go_at_call 14; refine (HK.out _).mono ?_; rintro e w' ⟨rfl, rfl⟩)
    | (go_at_call 15; with_reducible refine (HI0.out _).mono ?_; rintro e w' ⟨rfl, rfl⟩)
    | (go_at_call 15; with_reducible refine (HI1.out _).mono ?_; rintro e w' ⟨rfl, rfl⟩)
    | (go_at_call 15; with_reducible refine (HI2.out _).mono ?_; rintro e w' ⟨rfl, rfl⟩)
    | (go_at_call 16; refine (HF.out _).mono ?_; rintro e w' ⟨rfl, rfl⟩)
    | (go_at_call 11; refine (lives_any _).mono ?_; rintro e w' ⟨rfl, hb⟩))
  go_ret
  exact ⟨rfl, hb⟩

set_option maxHeartbeats 1000000 in
theorem sums_high_tf (a b c : Int) (w : World) (e1 : decide (a < b) = false) (e2 : decide (c < a) = true) (a1 : -9007199254740991 ≤ a) (a2 : a ≤ 9007199254740991) (b1 : -9007199254740991 ≤ b) (b2 : b ≤ 9007199254740991)
    (HS : Hid (∀ W, Calls Try.prog 12 #[.int .i64 a, .int .i64 b] W fun e w' => e = .returned (.tuple #[.int .i64 (a + b), .bool true]) ∧ W = w'))
    (HP : Hid (∀ W, Calls Try.prog 13 #[.int .i64 a, .int .i64 b] W fun e w' => e = .returned (.tuple #[.int .i64 0, .bool false]) ∧ W = w'))
    (HK : Hid (∀ W, Calls Try.prog 14 #[.int .i64 a, .int .i64 b, .int .i64 c] W fun e w' => e = .returned (.int .i64 c) ∧ W = w'))
    (HI0 : Hid (∀ W, Calls Try.prog 15 #[.int .i64 a] W fun e w' => e = .returned (.bool true) ∧ W = w'))
    (HI1 : Hid (∀ W, Calls Try.prog 15 #[.int .i64 b] W fun e w' => e = .returned (.bool true) ∧ W = w'))
    (HI2 : Hid (∀ W, Calls Try.prog 15 #[.int .i64 (a + b)] W fun e w' => e = .returned (.bool true) ∧ W = w'))
    (HF : Hid (∀ W, Calls Try.prog 16 #[.int .i64 a, .int .i64 b] W fun e w' => e = .returned (.bool false) ∧ W = w')) :
    Calls Try.prog 4 #[.int .i64 a, .int .i64 b, .int .i64 c] w fun e w' => e = .returned (.bool true) ∧ Below w.heap.size w w' := by
  go_enter Try.func4, Try.ntmps4
  go_wp2_with (first
    | (go_at_call 12; refine (HS.out _).mono ?_; rintro e w' ⟨rfl, rfl⟩)
    | (go_at_call 13; refine (HP.out _).mono ?_; rintro e w' ⟨rfl, rfl⟩)
    | (go_at_call 14; refine (HK.out _).mono ?_; rintro e w' ⟨rfl, rfl⟩)
    | (go_at_call 15; with_reducible refine (HI0.out _).mono ?_; rintro e w' ⟨rfl, rfl⟩)
    | (go_at_call 15; with_reducible refine (HI1.out _).mono ?_; rintro e w' ⟨rfl, rfl⟩)
    | (go_at_call 15; with_reducible refine (HI2.out _).mono ?_; rintro e w' ⟨rfl, rfl⟩)
    | (go_at_call 16; refine (HF.out _).mono ?_; rintro e w' ⟨rfl, rfl⟩)
    | (go_at_call 11; refine (lives_any _).mono ?_; rintro e w' ⟨rfl, hb⟩))
  go_ret
  exact ⟨rfl, hb⟩

set_option maxHeartbeats 1000000 in
theorem sums_high_ft (a b c : Int) (w : World) (e1 : decide (a < b) = false) (e2 : decide (c < a) = true) (a1 : -9007199254740991 ≤ a) (a2 : a ≤ 9007199254740991) (b1 : -9007199254740991 ≤ b) (b2 : b ≤ 9007199254740991) (m1 : -9007199254740991 ≤ a * b) (m2 : a * b ≤ 9007199254740991)
    (HS : Hid (∀ W, Calls Try.prog 12 #[.int .i64 a, .int .i64 b] W fun e w' => e = .returned (.tuple #[.int .i64 0, .bool false]) ∧ W = w'))
    (HP : Hid (∀ W, Calls Try.prog 13 #[.int .i64 a, .int .i64 b] W fun e w' => e = .returned (.tuple #[.int .i64 (a * b), .bool true]) ∧ W = w'))
    (HK : Hid (∀ W, Calls Try.prog 14 #[.int .i64 a, .int .i64 b, .int .i64 c] W fun e w' => e = .returned (.int .i64 c) ∧ W = w'))
    (HI0 : Hid (∀ W, Calls Try.prog 15 #[.int .i64 a] W fun e w' => e = .returned (.bool true) ∧ W = w'))
    (HI1 : Hid (∀ W, Calls Try.prog 15 #[.int .i64 b] W fun e w' => e = .returned (.bool true) ∧ W = w'))
    (HI2 : Hid (∀ W, Calls Try.prog 15 #[.int .i64 (a + b)] W fun e w' => e = .returned (.bool false) ∧ W = w'))
    (HF : Hid (∀ W, Calls Try.prog 16 #[.int .i64 a, .int .i64 b] W fun e w' => e = .returned (.bool true) ∧ W = w')) :
    Calls Try.prog 4 #[.int .i64 a, .int .i64 b, .int .i64 c] w fun e w' => e = .returned (.bool true) ∧ Below w.heap.size w w' := by
  go_enter Try.func4, Try.ntmps4
  go_wp2_with (first
    | (go_at_call 12; refine (HS.out _).mono ?_; rintro e w' ⟨rfl, rfl⟩)
    | (go_at_call 13; refine (HP.out _).mono ?_; rintro e w' ⟨rfl, rfl⟩)
    | (go_at_call 14; refine (HK.out _).mono ?_; rintro e w' ⟨rfl, rfl⟩)
    | (go_at_call 15; with_reducible refine (HI0.out _).mono ?_; rintro e w' ⟨rfl, rfl⟩)
    | (go_at_call 15; with_reducible refine (HI1.out _).mono ?_; rintro e w' ⟨rfl, rfl⟩)
    | (go_at_call 15; with_reducible refine (HI2.out _).mono ?_; rintro e w' ⟨rfl, rfl⟩)
    | (go_at_call 16; refine (HF.out _).mono ?_; rintro e w' ⟨rfl, rfl⟩)
    | (go_at_call 11; refine (lives_any _).mono ?_; rintro e w' ⟨rfl, hb⟩))
  go_ret
  exact ⟨rfl, hb⟩

set_option maxHeartbeats 1000000 in
theorem sums_high_ff (a b c : Int) (w : World) (e1 : decide (a < b) = false) (e2 : decide (c < a) = true) (a1 : -9007199254740991 ≤ a) (a2 : a ≤ 9007199254740991) (b1 : -9007199254740991 ≤ b) (b2 : b ≤ 9007199254740991)
    (HS : Hid (∀ W, Calls Try.prog 12 #[.int .i64 a, .int .i64 b] W fun e w' => e = .returned (.tuple #[.int .i64 0, .bool false]) ∧ W = w'))
    (HP : Hid (∀ W, Calls Try.prog 13 #[.int .i64 a, .int .i64 b] W fun e w' => e = .returned (.tuple #[.int .i64 0, .bool false]) ∧ W = w'))
    (HK : Hid (∀ W, Calls Try.prog 14 #[.int .i64 a, .int .i64 b, .int .i64 c] W fun e w' => e = .returned (.int .i64 c) ∧ W = w'))
    (HI0 : Hid (∀ W, Calls Try.prog 15 #[.int .i64 a] W fun e w' => e = .returned (.bool true) ∧ W = w'))
    (HI1 : Hid (∀ W, Calls Try.prog 15 #[.int .i64 b] W fun e w' => e = .returned (.bool true) ∧ W = w'))
    (HI2 : Hid (∀ W, Calls Try.prog 15 #[.int .i64 (a + b)] W fun e w' => e = .returned (.bool false) ∧ W = w'))
    (HF : Hid (∀ W, Calls Try.prog 16 #[.int .i64 a, .int .i64 b] W fun e w' => e = .returned (.bool false) ∧ W = w')) :
    Calls Try.prog 4 #[.int .i64 a, .int .i64 b, .int .i64 c] w fun e w' => e = .returned (.bool true) ∧ Below w.heap.size w w' := by
  go_enter Try.func4, Try.ntmps4
  go_wp2_with (first
    | (go_at_call 12; refine (HS.out _).mono ?_; rintro e w' ⟨rfl, rfl⟩)
    | (go_at_call 13; refine (HP.out _).mono ?_; rintro e w' ⟨rfl, rfl⟩)
    | (go_at_call 14; refine (HK.out _).mono ?_; rintro e w' ⟨rfl, rfl⟩)
    | (go_at_call 15; with_reducible refine (HI0.out _).mono ?_; rintro e w' ⟨rfl, rfl⟩)
    | (go_at_call 15; with_reducible refine (HI1.out _).mono ?_; rintro e w' ⟨rfl, rfl⟩)
    | (go_at_call 15; with_reducible refine (HI2.out _).mono ?_; rintro e w' ⟨rfl, rfl⟩)
    | (go_at_call 16; refine (HF.out _).mono ?_; rintro e w' ⟨rfl, rfl⟩)
    | (go_at_call 11; refine (lives_any _).mono ?_; rintro e w' ⟨rfl, hb⟩))
  go_ret
  exact ⟨rfl, hb⟩

set_option maxHeartbeats 1000000 in
theorem sums_same_a (a b c : Int) (w : World) (e1 : decide (a < b) = false) (e2 : decide (c < a) = false) 
    (HS : Hid (∀ W, Calls Try.prog 12 #[.int .i64 a, .int .i64 b] W fun e w' => e = .returned (.tuple #[.int .i64 0, .bool false]) ∧ W = w'))
    (HP : Hid (∀ W, Calls Try.prog 13 #[.int .i64 a, .int .i64 b] W fun e w' => e = .returned (.tuple #[.int .i64 0, .bool false]) ∧ W = w'))
    (HK : Hid (∀ W, Calls Try.prog 14 #[.int .i64 a, .int .i64 b, .int .i64 c] W fun e w' => e = .returned (.int .i64 a) ∧ W = w'))
    (HI0 : Hid (∀ W, Calls Try.prog 15 #[.int .i64 a] W fun e w' => e = .returned (.bool false) ∧ W = w')) :
    Calls Try.prog 4 #[.int .i64 a, .int .i64 b, .int .i64 c] w fun e w' => e = .returned (.bool true) ∧ Below w.heap.size w w' := by
  go_enter Try.func4, Try.ntmps4
  go_wp2_with (first
    | (go_at_call 12; refine (HS.out _).mono ?_; rintro e w' ⟨rfl, rfl⟩)
    | (go_at_call 13; refine (HP.out _).mono ?_; rintro e w' ⟨rfl, rfl⟩)
    | (go_at_call 14; refine (HK.out _).mono ?_; rintro e w' ⟨rfl, rfl⟩)
    | (go_at_call 15; with_reducible refine (HI0.out _).mono ?_; rintro e w' ⟨rfl, rfl⟩)
    | (go_at_call 11; refine (lives_any _).mono ?_; rintro e w' ⟨rfl, hb⟩))
  go_ret
  exact ⟨rfl, hb⟩

set_option maxHeartbeats 1000000 in
theorem sums_same_b (a b c : Int) (w : World) (e1 : decide (a < b) = false) (e2 : decide (c < a) = false) 
    (HS : Hid (∀ W, Calls Try.prog 12 #[.int .i64 a, .int .i64 b] W fun e w' => e = .returned (.tuple #[.int .i64 0, .bool false]) ∧ W = w'))
    (HP : Hid (∀ W, Calls Try.prog 13 #[.int .i64 a, .int .i64 b] W fun e w' => e = .returned (.tuple #[.int .i64 0, .bool false]) ∧ W = w'))
    (HK : Hid (∀ W, Calls Try.prog 14 #[.int .i64 a, .int .i64 b, .int .i64 c] W fun e w' => e = .returned (.int .i64 a) ∧ W = w'))
    (HI0 : Hid (∀ W, Calls Try.prog 15 #[.int .i64 a] W fun e w' => e = .returned (.bool true) ∧ W = w'))
    (HI1 : Hid (∀ W, Calls Try.prog 15 #[.int .i64 b] W fun e w' => e = .returned (.bool false) ∧ W = w')) :
    Calls Try.prog 4 #[.int .i64 a, .int .i64 b, .int .i64 c] w fun e w' => e = .returned (.bool true) ∧ Below w.heap.size w w' := by
  go_enter Try.func4, Try.ntmps4
  go_wp2_with (first
    | (go_at_call 12; refine (HS.out _).mono ?_; rintro e w' ⟨rfl, rfl⟩)
    | (go_at_call 13; refine (HP.out _).mono ?_; rintro e w' ⟨rfl, rfl⟩)
    | (go_at_call 14; refine (HK.out _).mono ?_; rintro e w' ⟨rfl, rfl⟩)
    | (go_at_call 15; with_reducible refine (HI0.out _).mono ?_; rintro e w' ⟨rfl, rfl⟩)
    | (go_at_call 15; with_reducible refine (HI1.out _).mono ?_; rintro e w' ⟨rfl, rfl⟩)
    | (go_at_call 11; refine (lives_any _).mono ?_; rintro e w' ⟨rfl, hb⟩))
  go_ret
  exact ⟨rfl, hb⟩

set_option maxHeartbeats 1000000 in
theorem sums_same_tt (a b c : Int) (w : World) (e1 : decide (a < b) = false) (e2 : decide (c < a) = false) (a1 : -9007199254740991 ≤ a) (a2 : a ≤ 9007199254740991) (b1 : -9007199254740991 ≤ b) (b2 : b ≤ 9007199254740991) (m1 : -9007199254740991 ≤ a * b) (m2 : a * b ≤ 9007199254740991)
    (HS : Hid (∀ W, Calls Try.prog 12 #[.int .i64 a, .int .i64 b] W fun e w' => e = .returned (.tuple #[.int .i64 (a + b), .bool true]) ∧ W = w'))
    (HP : Hid (∀ W, Calls Try.prog 13 #[.int .i64 a, .int .i64 b] W fun e w' => e = .returned (.tuple #[.int .i64 (a * b), .bool true]) ∧ W = w'))
    (HK : Hid (∀ W, Calls Try.prog 14 #[.int .i64 a, .int .i64 b, .int .i64 c] W fun e w' => e = .returned (.int .i64 a) ∧ W = w'))
    (HI0 : Hid (∀ W, Calls Try.prog 15 #[.int .i64 a] W fun e w' => e = .returned (.bool true) ∧ W = w'))
    (HI1 : Hid (∀ W, Calls Try.prog 15 #[.int .i64 b] W fun e w' => e = .returned (.bool true) ∧ W = w'))
    (HI2 : Hid (∀ W, Calls Try.prog 15 #[.int .i64 (a + b)] W fun e w' => e = .returned (.bool true) ∧ W = w'))
    (HF : Hid (∀ W, Calls Try.prog 16 #[.int .i64 a, .int .i64 b] W fun e w' => e = .returned (.bool true) ∧ W = w')) :
    Calls Try.prog 4 #[.int .i64 a, .int .i64 b, .int .i64 c] w fun e w' => e = .returned (.bool true) ∧ Below w.heap.size w w' := by
  go_enter Try.func4, Try.ntmps4
  go_wp2_with (first
    | (go_at_call 12; refine (HS.out _).mono ?_; rintro e w' ⟨rfl, rfl⟩)
    | (go_at_call 13; refine (HP.out _).mono ?_; rintro e w' ⟨rfl, rfl⟩)
    | (go_at_call 14; refine (HK.out _).mono ?_; rintro e w' ⟨rfl, rfl⟩)
    | (go_at_call 15; with_reducible refine (HI0.out _).mono ?_; rintro e w' ⟨rfl, rfl⟩)
    | (go_at_call 15; with_reducible refine (HI1.out _).mono ?_; rintro e w' ⟨rfl, rfl⟩)
    | (go_at_call 15; with_reducible refine (HI2.out _).mono ?_; rintro e w' ⟨rfl, rfl⟩)
    | (go_at_call 16; refine (HF.out _).mono ?_; rintro e w' ⟨rfl, rfl⟩)
    | (go_at_call 11; refine (lives_any _).mono ?_; rintro e w' ⟨rfl, hb⟩))
  go_ret
  exact ⟨rfl, hb⟩

set_option maxHeartbeats 1000000 in
theorem sums_same_tf (a b c : Int) (w : World) (e1 : decide (a < b) = false) (e2 : decide (c < a) = false) (a1 : -9007199254740991 ≤ a) (a2 : a ≤ 9007199254740991) (b1 : -9007199254740991 ≤ b) (b2 : b ≤ 9007199254740991)
    (HS : Hid (∀ W, Calls Try.prog 12 #[.int .i64 a, .int .i64 b] W fun e w' => e = .returned (.tuple #[.int .i64 (a + b), .bool true]) ∧ W = w'))
    (HP : Hid (∀ W, Calls Try.prog 13 #[.int .i64 a, .int .i64 b] W fun e w' => e = .returned (.tuple #[.int .i64 0, .bool false]) ∧ W = w'))
    (HK : Hid (∀ W, Calls Try.prog 14 #[.int .i64 a, .int .i64 b, .int .i64 c] W fun e w' => e = .returned (.int .i64 a) ∧ W = w'))
    (HI0 : Hid (∀ W, Calls Try.prog 15 #[.int .i64 a] W fun e w' => e = .returned (.bool true) ∧ W = w'))
    (HI1 : Hid (∀ W, Calls Try.prog 15 #[.int .i64 b] W fun e w' => e = .returned (.bool true) ∧ W = w'))
    (HI2 : Hid (∀ W, Calls Try.prog 15 #[.int .i64 (a + b)] W fun e w' => e = .returned (.bool true) ∧ W = w'))
    (HF : Hid (∀ W, Calls Try.prog 16 #[.int .i64 a, .int .i64 b] W fun e w' => e = .returned (.bool false) ∧ W = w')) :
    Calls Try.prog 4 #[.int .i64 a, .int .i64 b, .int .i64 c] w fun e w' => e = .returned (.bool true) ∧ Below w.heap.size w w' := by
  go_enter Try.func4, Try.ntmps4
  go_wp2_with (first
    | (go_at_call 12; refine (HS.out _).mono ?_; rintro e w' ⟨rfl, rfl⟩)
    | (go_at_call 13; refine (HP.out _).mono ?_; rintro e w' ⟨rfl, rfl⟩)
    | (go_at_call 14; refine (HK.out _).mono ?_; rintro e w' ⟨rfl, rfl⟩)
    | (go_at_call 15; with_reducible refine (HI0.out _).mono ?_; rintro e w' ⟨rfl, rfl⟩)
    | (go_at_call 15; with_reducible refine (HI1.out _).mono ?_; rintro e w' ⟨rfl, rfl⟩)
    | (go_at_call 15; with_reducible refine (HI2.out _).mono ?_; rintro e w' ⟨rfl, rfl⟩)
    | (go_at_call 16; refine (HF.out _).mono ?_; rintro e w' ⟨rfl, rfl⟩)
    | (go_at_call 11; refine (lives_any _).mono ?_; rintro e w' ⟨rfl, hb⟩))
  go_ret
  exact ⟨rfl, hb⟩

set_option maxHeartbeats 1000000 in
theorem sums_same_ft (a b c : Int) (w : World) (e1 : decide (a < b) = false) (e2 : decide (c < a) = false) (a1 : -9007199254740991 ≤ a) (a2 : a ≤ 9007199254740991) (b1 : -9007199254740991 ≤ b) (b2 : b ≤ 9007199254740991) (m1 : -9007199254740991 ≤ a * b) (m2 : a * b ≤ 9007199254740991)
    (HS : Hid (∀ W, Calls Try.prog 12 #[.int .i64 a, .int .i64 b] W fun e w' => e = .returned (.tuple #[.int .i64 0, .bool false]) ∧ W = w'))
    (HP : Hid (∀ W, Calls Try.prog 13 #[.int .i64 a, .int .i64 b] W fun e w' => e = .returned (.tuple #[.int .i64 (a * b), .bool true]) ∧ W = w'))
    (HK : Hid (∀ W, Calls Try.prog 14 #[.int .i64 a, .int .i64 b, .int .i64 c] W fun e w' => e = .returned (.int .i64 a) ∧ W = w'))
    (HI0 : Hid (∀ W, Calls Try.prog 15 #[.int .i64 a] W fun e w' => e = .returned (.bool true) ∧ W = w'))
    (HI1 : Hid (∀ W, Calls Try.prog 15 #[.int .i64 b] W fun e w' => e = .returned (.bool true) ∧ W = w'))
    (HI2 : Hid (∀ W, Calls Try.prog 15 #[.int .i64 (a + b)] W fun e w' => e = .returned (.bool false) ∧ W = w'))
    (HF : Hid (∀ W, Calls Try.prog 16 #[.int .i64 a, .int .i64 b] W fun e w' => e = .returned (.bool true) ∧ W = w')) :
    Calls Try.prog 4 #[.int .i64 a, .int .i64 b, .int .i64 c] w fun e w' => e = .returned (.bool true) ∧ Below w.heap.size w w' := by
  go_enter Try.func4, Try.ntmps4
  go_wp2_with (first
    | (go_at_call 12; refine (HS.out _).mono ?_; rintro e w' ⟨rfl, rfl⟩)
    | (go_at_call 13; refine (HP.out _).mono ?_; rintro e w' ⟨rfl, rfl⟩)
    | (go_at_call 14; refine (HK.out _).mono ?_; rintro e w' ⟨rfl, rfl⟩)
    | (go_at_call 15; with_reducible refine (HI0.out _).mono ?_; rintro e w' ⟨rfl, rfl⟩)
    | (go_at_call 15; with_reducible refine (HI1.out _).mono ?_; rintro e w' ⟨rfl, rfl⟩)
    | (go_at_call 15; with_reducible refine (HI2.out _).mono ?_; rintro e w' ⟨rfl, rfl⟩)
    | (go_at_call 16; refine (HF.out _).mono ?_; rintro e w' ⟨rfl, rfl⟩)
    | (go_at_call 11; refine (lives_any _).mono ?_; rintro e w' ⟨rfl, hb⟩))
  go_ret
  exact ⟨rfl, hb⟩

set_option maxHeartbeats 1000000 in
theorem sums_same_ff (a b c : Int) (w : World) (e1 : decide (a < b) = false) (e2 : decide (c < a) = false) (a1 : -9007199254740991 ≤ a) (a2 : a ≤ 9007199254740991) (b1 : -9007199254740991 ≤ b) (b2 : b ≤ 9007199254740991)
    (HS : Hid (∀ W, Calls Try.prog 12 #[.int .i64 a, .int .i64 b] W fun e w' => e = .returned (.tuple #[.int .i64 0, .bool false]) ∧ W = w'))
    (HP : Hid (∀ W, Calls Try.prog 13 #[.int .i64 a, .int .i64 b] W fun e w' => e = .returned (.tuple #[.int .i64 0, .bool false]) ∧ W = w'))
    (HK : Hid (∀ W, Calls Try.prog 14 #[.int .i64 a, .int .i64 b, .int .i64 c] W fun e w' => e = .returned (.int .i64 a) ∧ W = w'))
    (HI0 : Hid (∀ W, Calls Try.prog 15 #[.int .i64 a] W fun e w' => e = .returned (.bool true) ∧ W = w'))
    (HI1 : Hid (∀ W, Calls Try.prog 15 #[.int .i64 b] W fun e w' => e = .returned (.bool true) ∧ W = w'))
    (HI2 : Hid (∀ W, Calls Try.prog 15 #[.int .i64 (a + b)] W fun e w' => e = .returned (.bool false) ∧ W = w'))
    (HF : Hid (∀ W, Calls Try.prog 16 #[.int .i64 a, .int .i64 b] W fun e w' => e = .returned (.bool false) ∧ W = w')) :
    Calls Try.prog 4 #[.int .i64 a, .int .i64 b, .int .i64 c] w fun e w' => e = .returned (.bool true) ∧ Below w.heap.size w w' := by
  go_enter Try.func4, Try.ntmps4
  go_wp2_with (first
    | (go_at_call 12; refine (HS.out _).mono ?_; rintro e w' ⟨rfl, rfl⟩)
    | (go_at_call 13; refine (HP.out _).mono ?_; rintro e w' ⟨rfl, rfl⟩)
    | (go_at_call 14; refine (HK.out _).mono ?_; rintro e w' ⟨rfl, rfl⟩)
    | (go_at_call 15; with_reducible refine (HI0.out _).mono ?_; rintro e w' ⟨rfl, rfl⟩)
    | (go_at_call 15; with_reducible refine (HI1.out _).mono ?_; rintro e w' ⟨rfl, rfl⟩)
    | (go_at_call 15; with_reducible refine (HI2.out _).mono ?_; rintro e w' ⟨rfl, rfl⟩)
    | (go_at_call 16; refine (HF.out _).mono ?_; rintro e w' ⟨rfl, rfl⟩)
    | (go_at_call 11; refine (lives_any _).mono ?_; rintro e w' ⟨rfl, hb⟩))
  go_ret
  exact ⟨rfl, hb⟩

theorem decimalSums_any (a b c : Int) (w : World) :
    Calls Try.prog 4 #[.int .i64 a, .int .i64 b, .int .i64 c] w fun e w' => e = .returned (.bool true) ∧ Below w.heap.size w w' := by
  have HK := Lib.hid (fun W => clamp_any a b c W)
  have IA := Lib.hid (fun W => refIn_any a W)
  have IB := Lib.hid (fun W => refIn_any b W)
  have IC := Lib.hid (fun W => refIn_any (a + b) W)
  have hw := way_of a b c
  generalize claN a b c = k at *
  cases ha : exN a
  · rw [ha] at IA
    have HS := Lib.hid (fun W => add_no a b W (by simp [ha]))
    have HP := Lib.hid (fun W => times_no a b W (by simp [ha]))
    cases hw with
    | low h1 => exact sums_low_a a b c w h1 HS HP HK IA
    | high h1 h2 => exact sums_high_a a b c w (by simpa using h1) (by simpa using h2) HS HP HK IA
    | same h1 h2 => exact sums_same_a a b c w (by simpa using h1) (by simpa using h2) HS HP HK IA
  cases hb : exN b
  · rw [ha] at IA
    rw [hb] at IB
    have HS := Lib.hid (fun W => add_no a b W (by simp [ha, hb]))
    have HP := Lib.hid (fun W => times_no a b W (by simp [ha, hb]))
    cases hw with
    | low h1 => exact sums_low_b a b c w h1 HS HP HK IA IB
    | high h1 h2 => exact sums_high_b a b c w (by simpa using h1) (by simpa using h2) HS HP HK IA IB
    | same h1 h2 => exact sums_same_b a b c w (by simpa using h1) (by simpa using h2) HS HP HK IA IB
  obtain ⟨a1, a2⟩ := exN_yes ha
  obtain ⟨b1, b2⟩ := exN_yes hb
  have HF := Lib.hid (fun W => fits_any a b W ha hb)
  rw [ha] at IA
  rw [hb] at IB
  cases hc : exN (a + b) <;> cases hf : fitN a b
  · rw [hc] at IC
    rw [hf] at HF
    have HS := Lib.hid (fun W => add_no a b W (by simp [hc]))
    have HP := Lib.hid (fun W => times_no a b W (by simp [hf]))
    cases hw with
    | low h1 => exact sums_low_ff a b c w h1 a1 a2 b1 b2 HS HP HK IA IB IC HF
    | high h1 h2 => exact sums_high_ff a b c w (by simpa using h1) (by simpa using h2) a1 a2 b1 b2 HS HP HK IA IB IC HF
    | same h1 h2 => exact sums_same_ff a b c w (by simpa using h1) (by simpa using h2) a1 a2 b1 b2 HS HP HK IA IB IC HF
  · rw [hc] at IC
    rw [hf] at HF
    have HS := Lib.hid (fun W => add_no a b W (by simp [hc]))
    have HP := Lib.hid (fun W => times_yes a b W ha hb hf)
    obtain ⟨m1, m2⟩ := fitN_range hf
    cases hw with
    | low h1 => exact sums_low_ft a b c w h1 a1 a2 b1 b2 m1 m2 HS HP HK IA IB IC HF
    | high h1 h2 => exact sums_high_ft a b c w (by simpa using h1) (by simpa using h2) a1 a2 b1 b2 m1 m2 HS HP HK IA IB IC HF
    | same h1 h2 => exact sums_same_ft a b c w (by simpa using h1) (by simpa using h2) a1 a2 b1 b2 m1 m2 HS HP HK IA IB IC HF
  · rw [hc] at IC
    rw [hf] at HF
    have HS := Lib.hid (fun W => add_yes a b W ha hb hc)
    have HP := Lib.hid (fun W => times_no a b W (by simp [hf]))
    cases hw with
    | low h1 => exact sums_low_tf a b c w h1 a1 a2 b1 b2 HS HP HK IA IB IC HF
    | high h1 h2 => exact sums_high_tf a b c w (by simpa using h1) (by simpa using h2) a1 a2 b1 b2 HS HP HK IA IB IC HF
    | same h1 h2 => exact sums_same_tf a b c w (by simpa using h1) (by simpa using h2) a1 a2 b1 b2 HS HP HK IA IB IC HF
  · rw [hc] at IC
    rw [hf] at HF
    have HS := Lib.hid (fun W => add_yes a b W ha hb hc)
    have HP := Lib.hid (fun W => times_yes a b W ha hb hf)
    obtain ⟨m1, m2⟩ := fitN_range hf
    cases hw with
    | low h1 => exact sums_low_tt a b c w h1 a1 a2 b1 b2 m1 m2 HS HP HK IA IB IC HF
    | high h1 h2 => exact sums_high_tt a b c w (by simpa using h1) (by simpa using h2) a1 a2 b1 b2 m1 m2 HS HP HK IA IB IC HF
    | same h1 h2 => exact sums_same_tt a b c w (by simpa using h1) (by simpa using h2) a1 a2 b1 b2 m1 m2 HS HP HK IA IB IC HF

end Go.Proofs.Ytpnkdcakhjejnaa

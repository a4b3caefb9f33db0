/-
  What package float's Sign, Bits, Same and Cmp answer, and the document's own. Condition: bits below 2^64.
-/
import Derived.Test.YthiclminkbnibaaDoorFn
namespace Go.Proofs.YthiclminkbnibaaDoor
open Go.RowKit

theorem kind_zero (x : Nat) : (kindB x == 0) = nanB x := by
  unfold kindB
  cases nanB x <;> simp
  split
  · decide
  · split
    · decide
    · split <;> decide
theorem kind_range (x : Nat) : 0 ≤ kindB x ∧ kindB x ≤ 4 := by
  unfold kindB
  split
  · decide
  · split
    · decide
    · split
      · decide
      · split <;> decide

theorem neg_dec (x : Nat) : decide ((9223372036854775808 : Int) ≤ (x : Int)) = negB x := by
  unfold negB
  rw [decide_eq_decide]
  omega

set_option maxHeartbeats 400000 in
theorem rsign_any (x : Nat) (hx : x < 18446744073709551616) (w : World) :
    Calls Tryd.prog 22 #[.float .f64 x] w fun e w' => e = .returned (.int .i64 (signB x)) ∧ ∃ n, w' = w.drewN n := by
  have HK := Lib.hid fun W => rkind_any x hx W
  have hz := kind_zero x
  have hd := neg_dec x
  have hb := bits_run
  unfold signB
  cases h0 : nanB x
  · rw [h0] at hz
    cases h1 : negB x
    · rw [h1] at hd
      go_enter Tryd.func22, Tryd.ntmps22
      go_wp2_with (first
        | (go_at_call 19; refine (HK.out _).mono ?_; rintro e w1 ⟨rfl, n, rfl⟩))
      go_ret
      exact ⟨rfl, n, rfl⟩
    · rw [h1] at hd
      go_enter Tryd.func22, Tryd.ntmps22
      go_wp2_with (first
        | (go_at_call 19; refine (HK.out _).mono ?_; rintro e w1 ⟨rfl, n, rfl⟩))
      go_ret
      exact ⟨rfl, n, rfl⟩
  · rw [h0] at hz
    go_enter Tryd.func22, Tryd.ntmps22
    go_wp2_with (first
      | (go_at_call 19; refine (HK.out _).mono ?_; rintro e w1 ⟨rfl, n, rfl⟩))
    go_ret
    exact ⟨rfl, n, rfl⟩

set_option maxHeartbeats 400000 in
theorem rbits_any (x : Nat) (_hx : x < 18446744073709551616) (w : World) :
    Calls Tryd.prog 17 #[.float .f64 x] w fun e w' => e = .returned (.int .u64 (normB x : Nat)) ∧ ∃ n, w' = w.drewN n := by
  have hb := bits_run
  have hd : decide ((9218868437227405312 : Int) < (x : Int) % 9223372036854775808) = nanB x := by
    unfold nanB
    rw [decide_eq_decide]
    omega
  unfold normB
  cases h0 : nanB x
  · rw [h0] at hd
    go_enter Tryd.func17, Tryd.ntmps17
    go_wp2
    go_ret
    exact ⟨rfl, 0, rfl⟩
  · rw [h0] at hd
    go_enter Tryd.func17, Tryd.ntmps17
    go_wp2
    go_ret
    exact ⟨rfl, 0, rfl⟩

/-- The same number with the same sign, or none both. -/
def sameB (x y : Nat) : Bool := decide (normB x = normB y)
theorem same_beq (x y : Nat) : ((normB x : Int) == (normB y : Int)) = sameB x y := by
  unfold sameB
  rw [Bool.eq_iff_iff, beq_iff_eq, decide_eq_true_eq]
  omega

end Go.Proofs.YthiclminkbnibaaDoor

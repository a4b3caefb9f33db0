/-
  Which whole number a number is: the document's own answer. Condition: bits below 2^64.
-/
import Derived.Test.YtjhebbeojgbaoaaFn6
namespace Go.Proofs.Ytjhebbeojgbaoaa
open Go.RowKit

theorem kind_two (x : Nat) : decide (kindB x < 2) = (nanB x || decide (x % 9223372036854775808 = 9218868437227405312)) := by
  unfold kindB
  cases nanB x <;> simp
  split
  · simp [*]
  · split
    · simp [*]
    · split <;> simp [*]

set_option maxHeartbeats 1000000 in
theorem rwhole_any (x : Nat) (hx : x < 18446744073709551616) (w : World) :
    Calls Try.prog 9 #[.float .f64 x] w fun e w' => e = .returned (.tuple #[.int .i64 (wholeV x), .bool (wholeB x)]) ∧ ∃ n, w' = w.drewN n := by
  have HK := Lib.hid fun W => rkind_any x hx W
  have hk := kind_two x
  by_cases h0 : (nanB x || decide (x % 9223372036854775808 = 9218868437227405312)) = true
  · rw [h0] at hk
    have e : wholeB x = false := by
      rw [Bool.or_eq_true, decide_eq_true_eq] at h0
      rcases h0 with h0 | h0
      · unfold wholeB; rw [h0]; rfl
      · exact order_inf hx h0
    unfold wholeV
    rw [e]
    clear h0 e
    generalize kindB x = k at *
    go_enter Try.func9, Try.ntmps9
    go_wp2_with (first
      | (go_at_call 11; refine (HK.out _).mono ?_; rintro e w1 ⟨rfl, n, rfl⟩))
    go_ret2
    exact ⟨rfl, _, rfl⟩
  · rw [Bool.not_eq_true] at h0
    rw [h0] at hk
    rw [Bool.or_eq_false_iff] at h0
    obtain ⟨h0, _⟩ := h0
    have ha := above hx h0
    have hb := below hx h0
    have e : wholeB x = (!decide (4845873199050653695 < x % 9223372036854775808) && (FloatKind.f64.format.order x (truncB x) == some .eq)) := by unfold wholeB; rw [h0]; rfl
    by_cases h2 : 4845873199050653695 < x % 9223372036854775808
    · rw [decide_eq_true h2] at e ha hb
      unfold wholeV
      rw [e]
      clear e h2 h0
      generalize kindB x = k at *
      cases h3 : negB x
      · rw [h3] at ha hb
        simp only [Bool.not_false, Bool.true_and, Bool.false_and] at ha hb
        go_enter Try.func9, Try.ntmps9
        go_wp2_with (first
          | (go_at_call 11; refine (HK.out _).mono ?_; rintro e w1 ⟨rfl, n, rfl⟩))
        go_ret2
        exact ⟨rfl, _, rfl⟩
      · rw [h3] at ha hb
        simp only [Bool.not_true, Bool.true_and, Bool.false_and] at ha hb
        go_enter Try.func9, Try.ntmps9
        go_wp2_with (first
          | (go_at_call 11; refine (HK.out _).mono ?_; rintro e w1 ⟨rfl, n, rfl⟩))
        go_ret2
        exact ⟨rfl, _, rfl⟩
    · have hc := fun w => run_convert_float_int (P := Try.prog) w 23 3 .f64 .i64 x (partB x) (by kernel_rfl) Try.underlying3 (part_to hx (by omega))
      have hw := whole_back hx (by omega)
      rw [decide_eq_false h2] at e ha hb
      simp only [Bool.and_false] at ha hb
      clear h0 h2
      unfold wholeV
      generalize kindB x = k at *
      generalize partB x = p at *
      cases h1 : (FloatKind.f64.format.order x (truncB x) == some .eq)
      · rw [bne, bne, h1, ← bne] at hw
        rw [h1] at e
        rw [e]
        clear h1 e
        go_enter Try.func9, Try.ntmps9
        go_wp2_with (first
          | (go_at_call 11; refine (HK.out _).mono ?_; rintro e w1 ⟨rfl, n, rfl⟩))
        go_ret2
        exact ⟨rfl, _, rfl⟩
      · rw [bne, bne, h1, ← bne] at hw
        rw [h1] at e
        rw [e]
        clear h1 e
        go_enter Try.func9, Try.ntmps9
        go_wp2_with (first
          | (go_at_call 11; refine (HK.out _).mono ?_; rintro e w1 ⟨rfl, n, rfl⟩))
        go_ret2
        exact ⟨rfl, _, rfl⟩

end Go.Proofs.Ytjhebbeojgbaoaa

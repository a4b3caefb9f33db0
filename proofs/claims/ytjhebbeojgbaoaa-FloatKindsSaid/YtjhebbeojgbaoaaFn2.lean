/-
  What package float's Sign, Bits, Same and Cmp answer, and the document's own. Condition: bits below 2^64.
-/
import Derived.Test.YtjhebbeojgbaoaaFn
namespace Go.Proofs.Ytjhebbeojgbaoaa
open Go.RowKit

theorem kind_zero (x : Nat) : (kindB x == 0) = nanB x := by
  unfold kindB
  cases nanB x <;> simp
  split
  · decide
  · split
    · decide
    · split <;> decide
theorem kind_range (x : Nat) : 0 ≤ kindB x ∧ kindB x ≤ 4 := by
  unfold kindB
  split
  · decide
  · split
    · decide
    · split
      · decide
      · split <;> decide

set_option maxHeartbeats 400000 in
theorem sign_any (x : Nat) (hx : x < 18446744073709551616) (w : World) :
    Calls Try.prog 12 #[.float .f64 x] w fun e w' => e = .returned (.int .i64 (signB x)) ∧ ∃ n, w' = w.drewN n := by
  unfold signB
  cases h0 : nanB x
  · have HN := Lib.hid fun W => isNaN_is hx h0 W
    cases h1 : negB x
    · have HS := Lib.hid fun W => signbit_is hx h1 W
      go_enter Try.func12, Try.ntmps12
      go_wp2_with (first
        | (go_at_call 32; refine (HN.out _).mono ?_; rintro e w1 ⟨rfl, rfl⟩)
        | (go_at_call 35; refine (HS.out _).mono ?_; rintro e w1 ⟨rfl, rfl⟩))
      go_ret
      exact ⟨rfl, 0, rfl⟩
    · have HS := Lib.hid fun W => signbit_is hx h1 W
      go_enter Try.func12, Try.ntmps12
      go_wp2_with (first
        | (go_at_call 32; refine (HN.out _).mono ?_; rintro e w1 ⟨rfl, rfl⟩)
        | (go_at_call 35; refine (HS.out _).mono ?_; rintro e w1 ⟨rfl, rfl⟩))
      go_ret
      exact ⟨rfl, 0, rfl⟩
  · have HN := Lib.hid fun W => isNaN_is hx h0 W
    go_enter Try.func12, Try.ntmps12
    go_wp2_with (first
      | (go_at_call 32; refine (HN.out _).mono ?_; rintro e w1 ⟨rfl, rfl⟩))
    go_ret
    exact ⟨rfl, 0, rfl⟩

theorem neg_dec (x : Nat) : decide ((9223372036854775808 : Int) ≤ (x : Int)) = negB x := by
  unfold negB
  rw [decide_eq_decide]
  omega

set_option maxHeartbeats 400000 in
theorem rsign_any (x : Nat) (hx : x < 18446744073709551616) (w : World) :
    Calls Try.prog 13 #[.float .f64 x] w fun e w' => e = .returned (.int .i64 (signB x)) ∧ ∃ n, w' = w.drewN n := by
  have HK := Lib.hid fun W => rkind_any x hx W
  have hz := kind_zero x
  have hd := neg_dec x
  have hb := bits_run
  unfold signB
  cases h0 : nanB x
  · rw [h0] at hz
    cases h1 : negB x
    · rw [h1] at hd
      go_enter Try.func13, Try.ntmps13
      go_wp2_with (first
        | (go_at_call 11; refine (HK.out _).mono ?_; rintro e w1 ⟨rfl, n, rfl⟩))
      go_ret
      exact ⟨rfl, n, rfl⟩
    · rw [h1] at hd
      go_enter Try.func13, Try.ntmps13
      go_wp2_with (first
        | (go_at_call 11; refine (HK.out _).mono ?_; rintro e w1 ⟨rfl, n, rfl⟩))
      go_ret
      exact ⟨rfl, n, rfl⟩
  · rw [h0] at hz
    go_enter Try.func13, Try.ntmps13
    go_wp2_with (first
      | (go_at_call 11; refine (HK.out _).mono ?_; rintro e w1 ⟨rfl, n, rfl⟩))
    go_ret
    exact ⟨rfl, n, rfl⟩

set_option maxHeartbeats 400000 in
theorem fbits_any (x : Nat) (hx : x < 18446744073709551616) (w : World) :
    Calls Try.prog 14 #[.float .f64 x] w fun e w' => e = .returned (.int .u64 (normB x : Nat)) ∧ ∃ n, w' = w.drewN n := by
  have hb := bits_run
  unfold normB
  cases h0 : nanB x
  · have HN := Lib.hid fun W => isNaN_is hx h0 W
    go_enter Try.func14, Try.ntmps14
    go_wp2_with (first
      | (go_at_call 32; refine (HN.out _).mono ?_; rintro e w1 ⟨rfl, rfl⟩))
    go_ret
    exact ⟨rfl, 0, rfl⟩
  · have HN := Lib.hid fun W => isNaN_is hx h0 W
    go_enter Try.func14, Try.ntmps14
    go_wp2_with (first
      | (go_at_call 32; refine (HN.out _).mono ?_; rintro e w1 ⟨rfl, rfl⟩))
    go_ret
    exact ⟨rfl, 0, rfl⟩

set_option maxHeartbeats 400000 in
theorem rbits_any (x : Nat) (_hx : x < 18446744073709551616) (w : World) :
    Calls Try.prog 15 #[.float .f64 x] w fun e w' => e = .returned (.int .u64 (normB x : Nat)) ∧ ∃ n, w' = w.drewN n := by
  have hb := bits_run
  have hd : decide ((9218868437227405312 : Int) < (x : Int) % 9223372036854775808) = nanB x := by
    unfold nanB
    rw [decide_eq_decide]
    omega
  unfold normB
  cases h0 : nanB x
  · rw [h0] at hd
    go_enter Try.func15, Try.ntmps15
    go_wp2
    go_ret
    exact ⟨rfl, 0, rfl⟩
  · rw [h0] at hd
    go_enter Try.func15, Try.ntmps15
    go_wp2
    go_ret
    exact ⟨rfl, 0, rfl⟩

/-- The same number with the same sign, or none both. -/
def sameB (x y : Nat) : Bool := decide (normB x = normB y)
theorem same_beq (x y : Nat) : ((normB x : Int) == (normB y : Int)) = sameB x y := by
  unfold sameB
  rw [Bool.eq_iff_iff, beq_iff_eq, decide_eq_true_eq]
  omega

set_option maxHeartbeats 400000 in
theorem same_any (x y : Nat) (hx : x < 18446744073709551616) (hy : y < 18446744073709551616) (w : World) :
    Calls Try.prog 19 #[.float .f64 x, .float .f64 y] w fun e w' => e = .returned (.bool (sameB x y)) ∧ ∃ n, w' = w.drewN n := by
  have HX := Lib.hid fun W => fbits_any x hx W
  have HY := Lib.hid fun W => fbits_any y hy W
  have hs := same_beq x y
  generalize normB x = a at *
  generalize normB y = b at *
  generalize sameB x y = c at *
  go_enter Try.func19, Try.ntmps19
  go_wp2_with (first
    | (go_at_call 14; (with_reducible refine (HX.out _).mono ?_); rintro e w1 ⟨rfl, n1, rfl⟩)
    | (go_at_call 14; (with_reducible refine (HY.out _).mono ?_); rintro e w1 ⟨rfl, n2, rfl⟩))
  go_ret
  exact ⟨rfl, _, rfl⟩

set_option maxHeartbeats 400000 in
theorem place_any (x : Nat) (hx : x < 18446744073709551616) (w : World) :
    Calls Try.prog 36 #[.float .f64 x] w fun e w' => e = .returned (.int .u64 (placeB x : Nat)) ∧ ∃ n, w' = w.drewN n := by
  have HK := Lib.hid fun W => rkind_any x hx W
  have hz := kind_zero x
  have hd := neg_dec x
  have hb := bits_run
  obtain ⟨p, hp⟩ : ∃ p, p = placeB x := ⟨_, rfl⟩
  rw [← hp]
  unfold placeB at hp
  cases h0 : nanB x
  · rw [h0] at hz
    have hn : x % 9223372036854775808 ≤ 9218868437227405312 := by unfold nanB at h0; simp at h0; exact h0
    cases h1 : negB x
    · rw [h1] at hd
      have hl : x < 9223372036854775808 := by unfold negB at h1; simp at h1; exact h1
      have e : IntKind.u64.wrap (9223372036854775809 + (x : Int)) = p := by
        rw [hp, h0, h1]
        simp [IntKind.wrap, IntKind.bits, IntKind.signed]
        omega
      clear hp
      go_enter Try.func36, Try.ntmps36
      go_wp2_with (first
        | (go_at_call 11; refine (HK.out _).mono ?_; rintro e w1 ⟨rfl, n, rfl⟩))
      go_ret
      exact ⟨rfl, n, rfl⟩
    · rw [h1] at hd
      have hl : 9223372036854775808 ≤ x := by unfold negB at h1; simp at h1; exact h1
      have e0 : IntKind.u64.wrap ((x : Int) - 9223372036854775808) = ((x - 9223372036854775808 : Nat) : Int) := by
        simp [IntKind.wrap, IntKind.bits, IntKind.signed]
        omega
      have e : IntKind.u64.wrap (9223372036854775808 - ((x - 9223372036854775808 : Nat) : Int)) = p := by
        rw [hp, h0, h1]
        simp [IntKind.wrap, IntKind.bits, IntKind.signed]
        omega
      clear hp
      go_enter Try.func36, Try.ntmps36
      go_wp2_with (first
        | (go_at_call 11; refine (HK.out _).mono ?_; rintro e w1 ⟨rfl, n, rfl⟩))
      go_ret
      exact ⟨rfl, n, rfl⟩
  · rw [h0] at hz
    rw [if_pos h0] at hp
    subst hp
    go_enter Try.func36, Try.ntmps36
    go_wp2_with (first
      | (go_at_call 11; refine (HK.out _).mono ?_; rintro e w1 ⟨rfl, n, rfl⟩))
    go_ret
    exact ⟨rfl, n, rfl⟩

end Go.Proofs.Ytjhebbeojgbaoaa

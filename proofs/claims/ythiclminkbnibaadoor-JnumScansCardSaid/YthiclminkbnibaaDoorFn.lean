/-
  What package float's Kind, Sign, Bits, Same and Cmp answer, and the document's own. Condition: bits below 2^64.
-/
import Derived.Test.YthiclminkbnibaaDoorFk
namespace Go.Proofs.YthiclminkbnibaaDoor
open Go.RowKit

/-- What bits are. -/
def kindB (x : Nat) : Int :=
  if nanB x = true then 0 else if x % 9223372036854775808 = 9218868437227405312 then 1 else if x % 9223372036854775808 = 0 then 2 else if x % 9223372036854775808 < 4503599627370496 then 3 else 4
def signB (x : Nat) : Int := if nanB x = true then 0 else if negB x = true then -1 else 1
/-- The bits, the same ones of all that are no number. -/
def normB (x : Nat) : Nat := if nanB x = true then 9221120237041090561 else x
/-- Where a number stands among all. -/
def placeB (x : Nat) : Nat := if nanB x = true then 0 else if negB x = true then 9223372036854775808 - x % 9223372036854775808 else 9223372036854775809 + x % 9223372036854775808
def cmpB (x y : Nat) : Int := if placeB x < placeB y then -1 else if placeB y < placeB x then 1 else 0

theorem isNaN_is {x : Nat} {b : Bool} (hx : x < 18446744073709551616) (h : nanB x = b) (w : World) :
    Calls Tryd.prog 58 #[.float .f64 x] w fun e w' => e = .returned (.bool b) ∧ w = w' := h ▸ isNaN_any x hx w
theorem isInf_is {x : Nat} {b : Bool} (hx : x < 18446744073709551616) (h : decide (x % 9223372036854775808 = 9218868437227405312) = b) (w : World) :
    Calls Tryd.prog 59 #[.float .f64 x, .int .i64 0] w fun e w' => e = .returned (.bool b) ∧ ∃ n, w' = w.drewN n := h ▸ isInf_any x hx w
theorem is_zero {x : Nat} (hx : x < 18446744073709551616) (h : nanB x = false) : (FloatKind.f64.format.order x 0 == some .eq) = decide (x % 9223372036854775808 = 0) := by
  rw [ord_eq hx (by decide), h, Bool.eq_iff_iff]
  have k : key 0 = 0 := by kernel_rfl
  have n : nanB 0 = false := by kernel_rfl
  rw [k, n]
  unfold key
  simp
  split <;> omega
theorem is_tiny {x : Nat} (h : nanB x = false) : (FloatKind.f64.format.order (x % 9223372036854775808) 4503599627370496 == some .lt) = decide (x % 9223372036854775808 < 4503599627370496) := by
  rw [ord_lt (by omega) (by decide)]
  have k : key 4503599627370496 = 4503599627370496 := by kernel_rfl
  have n : nanB 4503599627370496 = false := by kernel_rfl
  rw [k, n, Bool.eq_iff_iff]
  unfold nanB at h ⊢
  unfold key
  rw [Nat.mod_mod]
  simp at h ⊢
  omega

set_option maxHeartbeats 1000000 in
theorem kind_any (x : Nat) (hx : x < 18446744073709551616) (w : World) :
    Calls Tryd.prog 36 #[.float .f64 x] w fun e w' => e = .returned (.int .i64 (kindB x)) ∧ ∃ n, w' = w.drewN n := by
  have HA := Lib.hid fun W => abs_any x hx W
  unfold kindB
  by_cases h0 : nanB x = true
  · rw [if_pos h0]
    have HN := Lib.hid fun W => isNaN_is hx h0 W
    go_enter Tryd.func36, Tryd.ntmps36
    go_wp2_with (first
      | (go_at_call 58; refine (HN.out _).mono ?_; rintro e w1 ⟨rfl, rfl⟩))
    go_ret
    exact ⟨rfl, 0, rfl⟩
  · rw [if_neg h0]
    have h0 : nanB x = false := by simpa using h0
    have HN := Lib.hid fun W => isNaN_is hx h0 W
    have e0 := is_zero hx h0
    have e1 := is_tiny h0
    by_cases h1 : x % 9223372036854775808 = 9218868437227405312
    · rw [if_pos h1]
      have HI := Lib.hid fun W => isInf_is hx (decide_eq_true h1) W
      clear e0 e1 h1
      go_enter Tryd.func36, Tryd.ntmps36
      go_wp2_with (first
        | (go_at_call 58; refine (HN.out _).mono ?_; rintro e w1 ⟨rfl, rfl⟩)
        | (go_at_call 59; refine (HI.out _).mono ?_; rintro e w1 ⟨rfl, n, rfl⟩))
      go_ret
      exact ⟨rfl, _, rfl⟩
    · rw [if_neg h1]
      have HI := Lib.hid fun W => isInf_is hx (decide_eq_false h1) W
      clear h1
      generalize x % 9223372036854775808 = m at *
      by_cases h2 : m = 0
      · rw [if_pos h2]
        rw [decide_eq_true h2] at e0
        clear e1 h2
        go_enter Tryd.func36, Tryd.ntmps36
        go_wp2_with (first
          | (go_at_call 58; refine (HN.out _).mono ?_; rintro e w1 ⟨rfl, rfl⟩)
          | (go_at_call 59; refine (HI.out _).mono ?_; rintro e w1 ⟨rfl, n, rfl⟩))
        go_ret
        exact ⟨rfl, _, rfl⟩
      · rw [if_neg h2]
        rw [decide_eq_false h2] at e0
        clear h2
        by_cases h3 : m < 4503599627370496
        · rw [if_pos h3]
          rw [decide_eq_true h3] at e1
          clear h3
          go_enter Tryd.func36, Tryd.ntmps36
          go_wp2_with (first
            | (go_at_call 58; refine (HN.out _).mono ?_; rintro e w1 ⟨rfl, rfl⟩)
            | (go_at_call 59; refine (HI.out _).mono ?_; rintro e w1 ⟨rfl, n, rfl⟩)
            | (go_at_call 60; refine (HA.out _).mono ?_; rintro e w2 ⟨rfl, n2, rfl⟩))
          go_ret
          exact ⟨rfl, _, rfl⟩
        · rw [if_neg h3]
          rw [decide_eq_false h3] at e1
          clear h3
          go_enter Tryd.func36, Tryd.ntmps36
          go_wp2_with (first
            | (go_at_call 58; refine (HN.out _).mono ?_; rintro e w1 ⟨rfl, rfl⟩)
            | (go_at_call 59; refine (HI.out _).mono ?_; rintro e w1 ⟨rfl, n, rfl⟩)
            | (go_at_call 60; refine (HA.out _).mono ?_; rintro e w2 ⟨rfl, n2, rfl⟩))
          go_ret
          exact ⟨rfl, _, rfl⟩

set_option maxHeartbeats 1000000 in
set_option maxRecDepth 100000 in
theorem rkind_any (x : Nat) (_hx : x < 18446744073709551616) (w : World) :
    Calls Tryd.prog 19 #[.float .f64 x] w fun e w' => e = .returned (.int .i64 (kindB x)) ∧ ∃ n, w' = w.drewN n := by
  have hb := bits_run
  obtain ⟨m, hm⟩ : ∃ m, m = x % 9223372036854775808 := ⟨_, rfl⟩
  have hI : (x : Int) % 9223372036854775808 = (m : Int) := by omega
  unfold kindB nanB
  rw [← hm]
  clear hm
  simp only [decide_eq_true_eq]
  by_cases h0 : 9218868437227405312 < m
  · rw [if_pos h0]
    go_enter Tryd.func19, Tryd.ntmps19
    go_wp2
    go_ret
    exact ⟨rfl, 0, rfl⟩
  · rw [if_neg h0]
    by_cases h1 : m = 9218868437227405312
    · rw [if_pos h1]
      subst h1
      go_enter Tryd.func19, Tryd.ntmps19
      go_wp2
      go_ret
      exact ⟨rfl, 0, rfl⟩
    · rw [if_neg h1]
      by_cases h2 : m = 0
      · rw [if_pos h2]
        subst h2
        go_enter Tryd.func19, Tryd.ntmps19
        go_wp2
        go_ret
        exact ⟨rfl, 0, rfl⟩
      · rw [if_neg h2]
        have j1 : ((m : Int) == 9218868437227405312) = false := by simp; omega
        have j2 : ((m : Int) == 0) = false := by simp; omega
        have j0 : decide ((9218868437227405312 : Int) < m) = false := by simp; omega
        clear h0 h1 h2
        by_cases h3 : m < 4503599627370496
        · rw [if_pos h3]
          have j3 : decide ((m : Int) < 4503599627370496) = true := by simp; omega
          clear h3
          go_enter Tryd.func19, Tryd.ntmps19
          go_wp2
          go_ret
          exact ⟨rfl, 0, rfl⟩
        · rw [if_neg h3]
          have j3 : decide ((m : Int) < 4503599627370496) = false := by simp; omega
          clear h3
          go_enter Tryd.func19, Tryd.ntmps19
          go_wp2
          go_ret
          exact ⟨rfl, 0, rfl⟩

end Go.Proofs.YthiclminkbnibaaDoor

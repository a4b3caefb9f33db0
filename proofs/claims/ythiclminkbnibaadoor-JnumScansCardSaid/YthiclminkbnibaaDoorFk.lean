/-
  What package math's small functions on float64 answer. Condition: bits below 2^64.
-/
import Derived.Test.YthiclminkbnibaaDoorRows
import Derived.Test.YthiclminkbnibaaDoorFlo
import Derived.WalkKit
import Derived.WalkSpells
import Derived.WalkLawsBesides
import Derived.Laws.Externs
import Derived.Laws.BitsAllLaws
import Derived.RegionTactic
import Derived.Deep.RegionWith
import Derived.Deep.DeepCutAuto
import Derived.Lib.Hide
namespace Go.Proofs.YthiclminkbnibaaDoor
open Go.RowKit

theorem bits_run (x : Nat) (w : World) : (callFunc 35 #[.float .f64 x]).run Tryd.prog w = .ok (.value (.int .u64 x)) w := by
  rw [run_callFunc_extern Tryd.func35 (by kernel_rfl) (by kernel_rfl) (by kernel_rfl) (e := Extern.MathFloatBits.float64bits) (by kernel_rfl)]
  rfl
theorem from_run (x : Nat) (w : World) : (callFunc 57 #[.int .u64 x]).run Tryd.prog w = .ok (.value (.float .f64 x)) w := by
  rw [run_callFunc_extern Tryd.func57 (by kernel_rfl) (by kernel_rfl) (by kernel_rfl) (e := Extern.MathFloatBits.float64frombits) (by kernel_rfl)]
  rfl
theorem from_run_lit (x : Int) (n : Nat) (h : x = n) (w : World) : (callFunc 57 #[.int .u64 x]).run Tryd.prog w = .ok (.value (.float .f64 n)) w := by
  subst h
  exact from_run n w

/-- A magnitude: without its sign. -/
theorem mag_bits (x : Nat) (h : x < 18446744073709551616) : bits .andNot .u64 (x : Int) 9223372036854775808 = ((x % 9223372036854775808 : Nat) : Int) := by
  have := u64_andNot_nat x 9223372036854775808 h (by decide)
  rw [show (18446744073709551615 - 9223372036854775808 : Nat) = 2 ^ 63 - 1 from by decide, Nat.and_two_pow_sub_one_eq_mod] at this
  exact this

theorem abs_any (x : Nat) (hx : x < 18446744073709551616) (w : World) :
    Calls Tryd.prog 60 #[.float .f64 x] w fun e w' => e = .returned (.float .f64 (x % 9223372036854775808)) ∧ ∃ n, w' = w.drewN n := by
  have h1 := mag_bits x hx
  generalize x % 9223372036854775808 = y at *
  have h2 := bits_run
  have h3 := from_run y
  go_enter Tryd.func60, Tryd.ntmps60
  go_wp2
  go_ret
  exact ⟨rfl, 0, rfl⟩

theorem isNaN_any (x : Nat) (hx : x < 18446744073709551616) (w : World) :
    Calls Tryd.prog 58 #[.float .f64 x] w fun e w' => e = .returned (.bool (nanB x)) ∧ w = w' := by
  have h1 := ord_self hx
  go_enter Tryd.func58, Tryd.ntmps58
  go_wp2
  go_ret
  exact ⟨rfl, rfl⟩

theorem inf_max (x : Nat) (hx : x < 18446744073709551616) : (FloatKind.f64.format.order (x % 9223372036854775808) 9218868437227405311 == some .gt) = decide (x % 9223372036854775808 = 9218868437227405312) := by
  rw [ord_gt (by omega) (by decide)]
  have k : key 9218868437227405311 = 9218868437227405311 := by kernel_rfl
  have n : nanB 9218868437227405311 = false := by kernel_rfl
  rw [k, n, Bool.eq_iff_iff]
  unfold key nanB
  rw [Nat.mod_mod]
  simp
  omega

set_option maxHeartbeats 400000 in
theorem isInf_any (x : Nat) (hx : x < 18446744073709551616) (w : World) :
    Calls Tryd.prog 59 #[.float .f64 x, .int .i64 0] w fun e w' => e = .returned (.bool (decide (x % 9223372036854775808 = 9218868437227405312))) ∧ ∃ n, w' = w.drewN n := by
  have HA := Lib.hid fun W => abs_any x hx W
  have h1 := inf_max x hx
  generalize decide (x % 9223372036854775808 = 9218868437227405312) = b at *
  generalize x % 9223372036854775808 = y at *
  go_enter Tryd.func59, Tryd.ntmps59
  go_wp2_with (go_at_call 60; refine (HA.out _).mono ?_; rintro e w1 ⟨rfl, n, rfl⟩)
  go_ret
  exact ⟨rfl, _, rfl⟩

/-- The infinity of a sign. -/
def infOf (n : Int) : Nat := if 0 ≤ n then 9218868437227405312 else 18442240474082181120
theorem inf_any (n : Int) (w : World) :
    Calls Tryd.prog 54 #[.int .i64 n] w fun e w' => e = .returned (.float .f64 (infOf n)) ∧ w = w' := by
  have h1 := from_run_lit 9218868437227405312 9218868437227405312 rfl
  have h2 := from_run_lit 18442240474082181120 18442240474082181120 rfl
  unfold infOf
  by_cases h : 0 ≤ n
  · rw [if_pos h]
    go_enter Tryd.func54, Tryd.ntmps54
    go_wp2
    go_ret
    exact ⟨rfl, rfl⟩
  · rw [if_neg h]
    go_enter Tryd.func54, Tryd.ntmps54
    go_wp2
    go_ret
    exact ⟨rfl, rfl⟩

theorem of_any (x : Nat) (w : World) :
    Calls Tryd.prog 34 #[.int .u64 x] w fun e w' => e = .returned (.float .f64 x) ∧ w = w' := by
  have h1 := from_run x
  go_enter Tryd.func34, Tryd.ntmps34
  go_wp2
  go_ret
  exact ⟨rfl, rfl⟩

theorem of_lit (n : Int) (x : Nat) (h : n = x) (w : World) :
    Calls Tryd.prog 34 #[.int .u64 n] w fun e w' => e = .returned (.float .f64 x) ∧ w = w' := by
  subst h
  exact of_any x w

end Go.Proofs.YthiclminkbnibaaDoor

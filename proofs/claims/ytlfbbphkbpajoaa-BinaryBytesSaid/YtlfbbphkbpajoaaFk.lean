/-
  What package math's small functions on float64 answer. Condition: bits below 2^64.
-/
import Derived.Test.YtlfbbphkbpajoaaRows
import Derived.Test.YtlfbbphkbpajoaaFlo
import Derived.WalkKit
import Derived.WalkSpells
import Derived.WalkLawsBesides
import Derived.Laws.Externs
import Derived.Laws.BitsAllLaws
import Derived.RegionTactic
import Derived.Deep.RegionWith
import Derived.Deep.DeepCutAuto
import Derived.Lib.Hide
namespace Go.Proofs.Ytlfbbphkbpajoaa
open Go.RowKit

theorem bits_run (x : Nat) (w : World) : (callFunc 26 #[.float .f64 x]).run Try.prog w = .ok (.value (.int .u64 x)) w := by
  rw [run_callFunc_extern Try.func26 (by kernel_rfl) (by kernel_rfl) (by kernel_rfl) (e := Extern.MathFloatBits.float64bits) (by kernel_rfl)]
  rfl
theorem from_run (x : Nat) (w : World) : (callFunc 32 #[.int .u64 x]).run Try.prog w = .ok (.value (.float .f64 x)) w := by
  rw [run_callFunc_extern Try.func32 (by kernel_rfl) (by kernel_rfl) (by kernel_rfl) (e := Extern.MathFloatBits.float64frombits) (by kernel_rfl)]
  rfl
theorem from_run_lit (x : Int) (n : Nat) (h : x = n) (w : World) : (callFunc 32 #[.int .u64 x]).run Try.prog w = .ok (.value (.float .f64 n)) w := by
  subst h
  exact from_run n w

theorem nan_any (w : World) :
    Calls Try.prog 30 #[] w fun e w' => e = .returned (.float .f64 9221120237041090561) ∧ w = w' := by
  have h1 := from_run_lit 9221120237041090561 9221120237041090561 rfl
  go_enter Try.func30, Try.ntmps30
  go_wp2
  go_ret
  exact ⟨rfl, rfl⟩

/-- The infinity of a sign. -/
def infOf (n : Int) : Nat := if 0 ≤ n then 9218868437227405312 else 18442240474082181120
theorem inf_any (n : Int) (w : World) :
    Calls Try.prog 31 #[.int .i64 n] w fun e w' => e = .returned (.float .f64 (infOf n)) ∧ w = w' := by
  have h1 := from_run_lit 9218868437227405312 9218868437227405312 rfl
  have h2 := from_run_lit 18442240474082181120 18442240474082181120 rfl
  unfold infOf
  by_cases h : 0 ≤ n
  · rw [if_pos h]
    go_enter Try.func31, Try.ntmps31
    go_wp2
    go_ret
    exact ⟨rfl, rfl⟩
  · rw [if_neg h]
    go_enter Try.func31, Try.ntmps31
    go_wp2
    go_ret
    exact ⟨rfl, rfl⟩

theorem of_any (x : Nat) (w : World) :
    Calls Try.prog 27 #[.int .u64 x] w fun e w' => e = .returned (.float .f64 x) ∧ w = w' := by
  have h1 := from_run x
  go_enter Try.func27, Try.ntmps27
  go_wp2
  go_ret
  exact ⟨rfl, rfl⟩

theorem of_lit (n : Int) (x : Nat) (h : n = x) (w : World) :
    Calls Try.prog 27 #[.int .u64 n] w fun e w' => e = .returned (.float .f64 x) ∧ w = w' := by
  subst h
  exact of_any x w

end Go.Proofs.Ytlfbbphkbpajoaa


/-
  What package float's Kind, Sign, Bits, Same and Cmp answer, and the document's own. Condition: bits below 2^64.
-/
import Derived.Test.YtlfbbphkbpajoaaFk
namespace Go.Proofs.Ytlfbbphkbpajoaa
open Go.RowKit

/-- What bits are. -/
def kindB (x : Nat) : Int :=
  if nanB x = true then 0 else if x % 9223372036854775808 = 9218868437227405312 then 1 else if x % 9223372036854775808 = 0 then 2 else if x % 9223372036854775808 < 4503599627370496 then 3 else 4
/-- The bits, the same ones of all that are no number. -/
def normB (x : Nat) : Nat := if nanB x = true then 9221120237041090561 else x
set_option maxHeartbeats 1000000 in
set_option maxRecDepth 100000 in
theorem rkind_any (x : Nat) (_hx : x < 18446744073709551616) (w : World) :
    Calls Try.prog 21 #[.float .f64 x] w fun e w' => e = .returned (.int .i64 (kindB x)) ∧ ∃ n, w' = w.drewN n := by
  have hb := bits_run
  obtain ⟨m, hm⟩ : ∃ m, m = x % 9223372036854775808 := ⟨_, rfl⟩
  have hI : (x : Int) % 9223372036854775808 = (m : Int) := by omega
  unfold kindB nanB
  rw [← hm]
  clear hm
  simp only [decide_eq_true_eq]
  by_cases h0 : 9218868437227405312 < m
  · rw [if_pos h0]
    go_enter Try.func21, Try.ntmps21
    go_wp2
    go_ret
    exact ⟨rfl, 0, rfl⟩
  · rw [if_neg h0]
    by_cases h1 : m = 9218868437227405312
    · rw [if_pos h1]
      subst h1
      go_enter Try.func21, Try.ntmps21
      go_wp2
      go_ret
      exact ⟨rfl, 0, rfl⟩
    · rw [if_neg h1]
      by_cases h2 : m = 0
      · rw [if_pos h2]
        subst h2
        go_enter Try.func21, Try.ntmps21
        go_wp2
        go_ret
        exact ⟨rfl, 0, rfl⟩
      · rw [if_neg h2]
        have j1 : ((m : Int) == 9218868437227405312) = false := by simp; omega
        have j2 : ((m : Int) == 0) = false := by simp; omega
        have j0 : decide ((9218868437227405312 : Int) < m) = false := by simp; omega
        clear h0 h1 h2
        by_cases h3 : m < 4503599627370496
        · rw [if_pos h3]
          have j3 : decide ((m : Int) < 4503599627370496) = true := by simp; omega
          clear h3
          go_enter Try.func21, Try.ntmps21
          go_wp2
          go_ret
          exact ⟨rfl, 0, rfl⟩
        · rw [if_neg h3]
          have j3 : decide ((m : Int) < 4503599627370496) = false := by simp; omega
          clear h3
          go_enter Try.func21, Try.ntmps21
          go_wp2
          go_ret
          exact ⟨rfl, 0, rfl⟩

end Go.Proofs.Ytlfbbphkbpajoaa


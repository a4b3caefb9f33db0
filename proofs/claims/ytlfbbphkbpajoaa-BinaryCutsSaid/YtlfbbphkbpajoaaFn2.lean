/-
  What package float's Sign, Bits, Same and Cmp answer, and the document's own. Condition: bits below 2^64.
-/
import Derived.Test.YtlfbbphkbpajoaaFn
namespace Go.Proofs.Ytlfbbphkbpajoaa
open Go.RowKit

set_option maxHeartbeats 400000 in
theorem rbits_any (x : Nat) (_hx : x < 18446744073709551616) (w : World) :
    Calls Try.prog 15 #[.float .f64 x] w fun e w' => e = .returned (.int .u64 (normB x : Nat)) ∧ ∃ n, w' = w.drewN n := by
  have hb := bits_run
  have hd : decide ((9218868437227405312 : Int) < (x : Int) % 9223372036854775808) = nanB x := by
    unfold nanB
    rw [decide_eq_decide]
    omega
  unfold normB
  cases h0 : nanB x
  · rw [h0] at hd
    go_enter Try.func15, Try.ntmps15
    go_wp2
    go_ret
    exact ⟨rfl, 0, rfl⟩
  · rw [h0] at hd
    go_enter Try.func15, Try.ntmps15
    go_wp2
    go_ret
    exact ⟨rfl, 0, rfl⟩

end Go.Proofs.Ytlfbbphkbpajoaa


/-
  What the document's own Parse answers, and lives of layer 5. Condition: the text is as long as a length can be.
-/
import Derived.Test.YtpnkdcakhjejnaaDoorDec2
namespace Go.Proofs.YtpnkdcakhjejnaaDoor
open Go.RowKit

theorem parV_007 : parV ⟨#[48, 48, 55]⟩ = .tuple #[.int .i64 7, .int .i64 0] := by kernel_rfl
theorem strV_007 : strV ⟨#[48, 48, 55]⟩ = .tuple #[.int .i64 0, .int .i64 2] := by kernel_rfl

set_option maxHeartbeats 400000 in
theorem lives_any (w : World) :
    Calls Tryd.prog 7 #[] w fun e w' => e = .returned (.bool true) ∧ Below w.heap.size w w' := by
  have HP : Hid (∀ W, Calls Tryd.prog 10 #[.string ⟨#[48, 48, 55]⟩] W fun e w' => e = .returned (.tuple #[.int .i64 7, .int .i64 0]) ∧ Below W.heap.size W w') := fun W => by
    have := parse_any ⟨#[48, 48, 55]⟩ W (of_decide_eq_true rfl)
    rwa [parV_007] at this
  have HS : Hid (∀ W, Calls Tryd.prog 6 #[.string ⟨#[48, 48, 55]⟩] W fun e w' => e = .returned (.tuple #[.int .i64 0, .int .i64 2]) ∧ Below W.heap.size W w') := fun W => by
    have := strict_any ⟨#[48, 48, 55]⟩ W (of_decide_eq_true rfl)
    rwa [strV_007] at this
  go_enter Tryd.func7, Tryd.ntmps7
  go_wp2_with (first
    | (go_at_call 10; refine (HP.out _).mono ?_; rintro e w1 ⟨rfl, hb1⟩)
    | (go_at_call 6; refine (HS.out _).mono ?_; rintro e w2 ⟨rfl, hb2⟩))
  go_ret
  exact ⟨rfl, hb1.trans (hb2.mono hb1.size)⟩

end Go.Proofs.YtpnkdcakhjejnaaDoor

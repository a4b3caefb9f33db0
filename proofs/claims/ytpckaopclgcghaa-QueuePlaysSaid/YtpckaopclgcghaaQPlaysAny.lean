/-
  The law on a queue's calls returns true, for every number whatever and every acts. Conditions: what the arguments' reading gives.
-/
import Derived.Test.YtpckaopclgcghaaQPlays
namespace Go.Proofs.Ytpckaopclgcghaa
open Go.RowKit

theorem q_eq_none (w : World) : (binOp .eql 23 (.pointer none) (.pointer none)).run Try.prog w = .ok (.bool true) w := by kernel_rfl

set_option maxHeartbeats 1000000 in
set_option maxRecDepth 100000 in
theorem plays_neg (most : Int) (A : Option Addr) (n c : Nat) (w : World) (hm : most < 0) :
    Calls Try.prog 3 #[.int .i64 most, .slice A n c] w fun e w' => e = .returned (.bool true) ∧ Below w.heap.size w w' := by
  have hq := q_eq_none
  have HL := Lib.hid (lives7_any w)
  have HN := Lib.hid (qnew_neg most w hm)
  have d1 : decide (most < 0) = true := by simpa using hm
  go_enter Try.func3, Try.ntmps3
  go_wp2_with (first
    | (go_at_call 5; refine HN.out.mono ?_; rintro e w1 ⟨rfl, rfl⟩)
    | (go_at_call 6; refine HL.out.mono ?_; rintro e w3 ⟨rfl, hB3⟩; have HB3 := Lib.hid hB3; clear hB3))
  go_ret
  exact ⟨rfl, HB3.out⟩

set_option maxHeartbeats 1000000 in
set_option maxRecDepth 100000 in
theorem plays_far (most : Int) (A : Option Addr) (n c : Nat) (w : World) (hm : 1048576 < most) :
    Calls Try.prog 3 #[.int .i64 most, .slice A n c] w fun e w' => e = .returned (.bool true) ∧ Below w.heap.size w w' := by
  have hq := q_eq_none
  have HL := Lib.hid (lives7_any w)
  have HN := Lib.hid (qnew_far most w hm)
  have d1 : decide (most < 0) = false := by simp; omega
  have d2 : decide (1048576 < most) = true := by simpa using hm
  go_enter Try.func3, Try.ntmps3
  go_wp2_with (first
    | (go_at_call 5; refine HN.out.mono ?_; rintro e w1 ⟨rfl, rfl⟩)
    | (go_at_call 6; refine HL.out.mono ?_; rintro e w3 ⟨rfl, hB3⟩; have HB3 := Lib.hid hB3; clear hB3))
  go_ret
  exact ⟨rfl, HB3.out⟩

theorem queuePlays_any (most : Int) (A : Option Addr) (n c : Nat) (w : World) (hn : n ≤ 9223372036854775807) (hd : Acts w A n) :
    Calls Try.prog 3 #[.int .i64 most, .slice A n c] w fun e w' => e = .returned (.bool true) ∧ Below w.heap.size w w' := by
  by_cases h1 : most < 0
  · exact plays_neg most A n c w h1
  · by_cases h2 : 1048576 < most
    · exact plays_far most A n c w h2
    · obtain ⟨m, rfl⟩ : ∃ m : Nat, most = m := ⟨most.toNat, by omega⟩
      exact plays_any m A n c w (by omega) hn hd

end Go.Proofs.Ytpckaopclgcghaa

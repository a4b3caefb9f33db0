/-
  What Lower, Prefix, HasPrefix and Has answer, and what Skip does to a cursor. Conditions: lengths as they can be.
-/
import Derived.Test.YtmepnfkgfbbkiaaScan
import Derived.Test.YtmepnfkgfbbkiaaCursor
import Derived.Test.YtmepnfkgfbbkiaaHas
import Derived.LoopTactic
namespace Go.Proofs.Ytmepnfkgfbbkiaa
open Go.RowKit

set_option maxHeartbeats 400000 in
theorem hasPrefix0_any (s p : ByteArray) (w : World) (_hs : s.size ≤ 9223372036854775807) (_hp : p.size ≤ 9223372036854775807) :
    Calls Try.prog 77 #[.string s, .string p] w fun e w' => e = .returned (.bool (prefB s p)) ∧ w = w' := by
  by_cases h1 : p.size ≤ s.size
  · have d1 : decide (p.size ≤ s.size) = true := by simpa using h1
    have e : prefB s p = ((s.extract 0 p.size).toList == p.toList) := by unfold prefB; rw [d1]; rfl
    rw [e]
    clear e
    go_enter Try.func77, Try.ntmps77
    go_wp2
    go_ret
    exact ⟨rfl, rfl⟩
  · have d1 : decide (p.size ≤ s.size) = false := by simpa using h1
    have e : prefB s p = false := by unfold prefB; rw [d1]; rfl
    rw [e]
    clear e
    go_enter Try.func77, Try.ntmps77
    go_wp2
    go_ret
    exact ⟨rfl, rfl⟩

set_option maxHeartbeats 400000 in
theorem hasPrefix_any (s p : ByteArray) (w : World) (hs : s.size ≤ 9223372036854775807) (hp : p.size ≤ 9223372036854775807) :
    Calls Try.prog 63 #[.string s, .string p] w fun e w' => e = .returned (.bool (prefB s p)) ∧ w = w' := by
  go_enter Try.func63, Try.ntmps63
  go_wp2_with (go_at_call 77; refine (hasPrefix0_any s p _ hs hp).mono ?_; rintro e w' ⟨rfl, rfl⟩)
  go_ret
  exact ⟨rfl, rfl⟩

set_option maxHeartbeats 400000 in
theorem skip_yes (cb k : Nat) (s t : ByteArray) (w : World) (h : Cur w cb s k) (hk : k ≤ s.size) (hs : s.size ≤ 9223372036854775807) (ht : t.size ≤ 9223372036854775807) (hp : prefB (s.extract k s.size) t = true) (hkt : k + t.size ≤ s.size) :
    Calls Try.prog 48 #[cptr cb, .string t] w fun e w' => e = .returned (.bool true) ∧ ∃ m, w' = (w.drewN m).setCell ⟨cb, 1, none⟩ (.int .i64 (k + t.size : Nat)) := by
  have c0 := h.c0
  have c1 := h.c1
  have z1 := h.frozen 1
  have HP : Hid (∀ W, Calls Try.prog 63 #[.string (s.extract k s.size), .string t] W fun e w' => e = .returned (.bool true) ∧ w' = W) := by
    intro W
    have := hasPrefix_any (s.extract k s.size) t W (by simp; omega) ht
    rw [hp] at this
    exact this.mono fun _ _ h => ⟨h.1, h.2.symm⟩
  clear h hp
  go_enter Try.func48, Try.ntmps48
  go_wp2
  go_quiet ((go_at_call 63; exact Calls.quiet_of_same (HP.out _)))
  go_wp2
  go_ret
  exact ⟨rfl, _, rfl⟩

set_option maxHeartbeats 400000 in
theorem skip_no (cb k : Nat) (s t : ByteArray) (w : World) (h : Cur w cb s k) (hk : k ≤ s.size) (hs : s.size ≤ 9223372036854775807) (ht : t.size ≤ 9223372036854775807) (hp : prefB (s.extract k s.size) t = false) :
    Calls Try.prog 48 #[cptr cb, .string t] w fun e w' => e = .returned (.bool false) ∧ ∃ m, w' = w.drewN m := by
  have c0 := h.c0
  have c1 := h.c1
  have HP : Hid (∀ W, Calls Try.prog 63 #[.string (s.extract k s.size), .string t] W fun e w' => e = .returned (.bool false) ∧ w' = W) := by
    intro W
    have := hasPrefix_any (s.extract k s.size) t W (by simp; omega) ht
    rw [hp] at this
    exact this.mono fun _ _ h => ⟨h.1, h.2.symm⟩
  clear h hp
  go_enter Try.func48, Try.ntmps48
  go_wp2
  go_quiet ((go_at_call 63; exact Calls.quiet_of_same (HP.out _)))
  go_wp2
  go_ret
  exact ⟨rfl, _, rfl⟩

end Go.Proofs.Ytmepnfkgfbbkiaa

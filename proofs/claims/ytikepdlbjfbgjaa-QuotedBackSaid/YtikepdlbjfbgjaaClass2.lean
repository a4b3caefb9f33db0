/-
  What Trim and Ends answer, and those of the document's own answer. Condition: the text is as long as a length can be.
-/
import Derived.Test.YtikepdlbjfbgjaaClass1
import Derived.Test.YtikepdlbjfbgjaaTexts
import Derived.LoopTactic
namespace Go.Proofs.Ytikepdlbjfbgjaa
open Go.RowKit

set_option maxHeartbeats 1000000 in
theorem cutBack_tab (s : ByteArray) (w : World) (hs : s.size ≤ 9223372036854775807) :
    Calls Try.prog 62 #[.string s, .func (.func 54) #[] #[]] w fun e w' => e = .returned (.string (cutP tabB s)) ∧ w = w' := by
  go_enter Try.func62, Try.ntmps62
  go_wp2
  go_loop [5] (fun i => ∃ k : Nat, k ≤ s.size ∧ i = .int .i64 k ∧ backN tabB s k = backN tabB s s.size) (fun i => (intOf i).toNat)
  case atStart => exact ⟨s.size, Nat.le_refl _, rfl, rfl⟩
  case round =>
    obtain ⟨k, hk, rfl, hb⟩ := hrel
    have HB := Lib.hid hb
    clear hb
    cases k with
    | zero =>
      have HE := Lib.hid (show cutP tabB s = ByteArray.empty from by unfold cutP; rw [← HB.out]; simp [backN])
      go_wp2
      go_ret
      exact ⟨by rw [HE.out]; rfl, rfl⟩
    | succ m =>
      have hm : m < s.size := by omega
      have g1 : (0 : Int) < (m : Int) + 1 := by omega
      have g2 : ((m + 1 : Nat) : Int) - 1 = (m : Int) := by omega
      have HL := Lib.hid (fun W => tab_any s[m] W)
      cases hb : tabB s[m]
      · have HE := Lib.hid (show cutP tabB s = s.extract 0 (m + 1) from by unfold cutP; rw [← HB.out, backN_stop hm hb])
        have HL2 : Hid (∀ W, Calls Try.prog 54 #[.int .u8 (s[m].toNat : Int)] W fun e w' => e = .returned (.bool false) ∧ W = w') := fun W => by have := HL.out W; rwa [hb] at this
        clear HL hb
        go_wp2_with (go_at_call 54; refine (HL2.out _).mono ?_; rintro e w' ⟨rfl, rfl⟩)
        go_ret
        exact ⟨by rw [HE.out]; rfl, rfl⟩
      · have HE : Hid (backN tabB s (m + 1) = backN tabB s m) := backN_step hm hb
        have HL2 : Hid (∀ W, Calls Try.prog 54 #[.int .u8 (s[m].toNat : Int)] W fun e w' => e = .returned (.bool true) ∧ W = w') := fun W => by have := HL.out W; rwa [hb] at this
        clear HL hb
        go_wp2_with (go_at_call 54; refine (HL2.out _).mono ?_; rintro e w' ⟨rfl, rfl⟩)
        go_round
        case rel => exact ⟨m, by omega, by go_num, HE.out.symm.trans HB.out⟩
        case measure => first | (simp [intOf]; done) | (simp [intOf]; omega)

set_option maxHeartbeats 1000000 in
theorem ends_any (s : ByteArray) (w : World) (hs : s.size ≤ 9223372036854775807) :
    Calls Try.prog 56 #[.string s] w fun e w' => e = .returned (.string (cutP tabB s)) ∧ w = w' := by
  go_enter Try.func56, Try.ntmps56
  go_wp2_with (go_at_call 62; refine (cutBack_tab s _ hs).mono ?_; rintro e w' ⟨rfl, rfl⟩)
  go_ret
  exact ⟨rfl, rfl⟩

/-- How long a text is. -/
def strLen : Value → Nat
  | .string s => s.size
  | _ => 0

end Go.Proofs.Ytikepdlbjfbgjaa

/-
  What the document's own run, Is, State and Scan of layer 9 answer. Condition: the text is as long as a length can be.
-/
import Derived.Test.YthiclminkbnibaaDoorClass1
import Derived.Test.YthiclminkbnibaaDoorJs
import Derived.LoopTactic
import Derived.Deep.DeepCutAuto
import Derived.Lib.Hide
import Derived.Lib.Strings
namespace Go.Proofs.YthiclminkbnibaaDoor
open Go.RowKit

set_option maxHeartbeats 1000000 in
theorem run_any (s : ByteArray) (i : Nat) (w : World) (hi : i ≤ s.size) (hs : s.size ≤ 9223372036854775807) :
    Calls Tryd.prog 30 #[.string s, .int .i64 (i : Int)] w fun e w' => e = .returned (.int .i64 (dgs s i : Nat)) ∧ w = w' := by
  go_enter Tryd.func30, Tryd.ntmps30
  go_wp2
  go_loop [5] (fun v => ∃ k : Nat, i + k ≤ s.size ∧ v = .int .i64 k ∧ Hid (scan digB s (i + k) = scan digB s i)) (fun v => s.size - (intOf v).toNat)
  case atStart => exact ⟨0, by omega, rfl, rfl⟩
  case round =>
    obtain ⟨k, hk, rfl, HB⟩ := hrel
    by_cases hlt : i + k < s.size
    · have e1 : decide (((i : Int) + (k : Int)) < (s.size : Int)) = true := by simp; omega
      have HL := Lib.hid (fun W => refDigit_any (s[i + k]'hlt) W)
      cases hb : digB (s[i + k]'hlt)
      · have HT : Hid (dgs s i = k) := by
          have := HB.out
          rw [scan_stop hlt hb] at this
          unfold dgs
          show _ = _
          omega
        have HL2 : Hid (∀ W, Calls Tryd.prog 53 #[.int .u8 ((s[i + k]'hlt).toNat : Int)] W fun e w' => e = .returned (.bool false) ∧ W = w') := fun W => by have := HL.out W; rwa [hb] at this
        clear HL hb
        go_wp2_with (go_at_call 53; refine (HL2.out _).mono ?_; rintro e w' ⟨rfl, rfl⟩)
        go_ret
        exact ⟨by rw [HT.out]; rfl, rfl⟩
      · have HE : Hid (scan digB s (i + k + 1) = scan digB s i) := (scan_step hlt hb).trans HB.out
        have HL2 : Hid (∀ W, Calls Tryd.prog 53 #[.int .u8 ((s[i + k]'hlt).toNat : Int)] W fun e w' => e = .returned (.bool true) ∧ W = w') := fun W => by have := HL.out W; rwa [hb] at this
        clear HL hb
        go_wp2_with (go_at_call 53; refine (HL2.out _).mono ?_; rintro e w' ⟨rfl, rfl⟩)
        go_round
        case rel => exact ⟨k + 1, by omega, by go_num, HE⟩
        case measure => simp [intOf]; omega
    · have e1 : decide (((i : Int) + (k : Int)) < (s.size : Int)) = false := by simp; omega
      have HT : Hid (dgs s i = k) := by
        have := HB.out
        rw [scan_end (by omega)] at this
        unfold dgs
        show _ = _
        omega
      go_wp2
      go_ret
      exact ⟨by rw [HT.out]; rfl, rfl⟩

end Go.Proofs.YthiclminkbnibaaDoor

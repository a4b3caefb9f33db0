/-
  What package class's functions of one byte answer, and those of the document's own answer. No condition.
-/
import Derived.Test.YtmepnfkgfbbkiaaRows
import Derived.Test.YtmepnfkgfbbkiaaByte
import Derived.Test.YtmepnfkgfbbkiaaHas
import Derived.WalkKit
import Derived.WalkSpells
import Derived.WalkLawsBesides
import Derived.Laws.Externs
namespace Go.Proofs.Ytmepnfkgfbbkiaa
open Go.RowKit

theorem dI (a : Nat) (b : UInt8) : decide (a ≤ b.toNat) = decide ((a : Int) ≤ (b.toNat : Int)) := by simp
theorem dJ (a : Nat) (b : UInt8) : decide (b.toNat ≤ a) = decide ((b.toNat : Int) ≤ (a : Int)) := by simp
theorem dE (a : Nat) (b : UInt8) : (b.toNat == a) = ((b.toNat : Int) == (a : Int)) := by
  rw [Bool.eq_iff_iff, beq_iff_eq, beq_iff_eq]
  omega

set_option maxHeartbeats 400000 in
theorem lower1_any (b : UInt8) (w : World) :
    Calls Try.prog 52 #[.int .u8 (b.toNat : Int)] w fun e w' => e = .returned (.int .u8 ((lowB b).toNat : Int)) ∧ w = w' := by
  have hb := b.toNat_lt
  by_cases h : 65 ≤ b.toNat ∧ b.toNat ≤ 90
  · have e : (lowB b).toNat = b.toNat + 32 := by
      unfold lowB
      rw [if_pos (by simpa using h), UInt8.toNat_ofNat']
      omega
    rw [e]
    have h1 : (65 : Int) ≤ (b.toNat : Int) := by omega
    have h2 : (b.toNat : Int) ≤ 90 := by omega
    clear e
    go_enter Try.func52, Try.ntmps52
    go_wp2
    go_ret
    refine ⟨?_, rfl⟩
    go_num
  · have e : lowB b = b := by
      unfold lowB
      rw [if_neg (by simpa using h)]
    rw [e]
    clear e
    by_cases h1 : (65 : Int) ≤ (b.toNat : Int)
    · have h2 : decide ((b.toNat : Int) ≤ 90) = false := by simp; omega
      go_enter Try.func52, Try.ntmps52
      go_wp2
      go_ret
      exact ⟨rfl, rfl⟩
    · have h2 : decide ((65 : Int) ≤ (b.toNat : Int)) = false := by simp; omega
      go_enter Try.func52, Try.ntmps52
      go_wp2
      go_ret
      exact ⟨rfl, rfl⟩

set_option maxHeartbeats 400000 in
theorem digit_any (b : UInt8) (w : World) :
    Calls Try.prog 67 #[.int .u8 (b.toNat : Int)] w fun e w' => e = .returned (.bool (digB b)) ∧ w = w' := by
  have e : digB b = (decide ((48 : Int) ≤ (b.toNat : Int)) && decide ((b.toNat : Int) ≤ 57)) := by unfold digB; rw [dI, dJ]; rfl
  rw [e]
  clear e
  cases h1 : decide ((48 : Int) ≤ (b.toNat : Int)) <;>
  · go_enter Try.func67, Try.ntmps67
    go_wp2
    go_ret
    exact ⟨rfl, rfl⟩

set_option maxHeartbeats 400000 in
theorem refDigit_any (b : UInt8) (w : World) :
    Calls Try.prog 56 #[.int .u8 (b.toNat : Int)] w fun e w' => e = .returned (.bool (digB b)) ∧ w = w' := by
  have e : digB b = (decide ((48 : Int) ≤ (b.toNat : Int)) && decide ((b.toNat : Int) ≤ 57)) := by unfold digB; rw [dI, dJ]; rfl
  rw [e]
  clear e
  cases h0 : decide ((48 : Int) ≤ (b.toNat : Int)) <;>
  · go_enter Try.func56, Try.ntmps56
    go_wp2
    go_ret
    exact ⟨rfl, rfl⟩

set_option maxHeartbeats 400000 in
theorem tab_any (b : UInt8) (w : World) :
    Calls Try.prog 70 #[.int .u8 (b.toNat : Int)] w fun e w' => e = .returned (.bool (tabB b)) ∧ w = w' := by
  have e : tabB b = ((b.toNat : Int) == 9 || (b.toNat : Int) == 32) := by unfold tabB; rw [dE, dE]; rfl
  rw [e]
  clear e
  cases h0 : ((b.toNat : Int) == 9) <;>
  · go_enter Try.func70, Try.ntmps70
    go_wp2
    go_ret
    exact ⟨rfl, rfl⟩

set_option maxHeartbeats 400000 in
theorem quoted_any (b : UInt8) (w : World) :
    Calls Try.prog 29 #[.int .u8 (b.toNat : Int)] w fun e w' => e = .returned (.bool (quoB b)) ∧ w = w' := by
  have e : quoB b = ((b.toNat : Int) == 9 || decide ((32 : Int) ≤ (b.toNat : Int)) && (b.toNat : Int) != 127) := by unfold quoB; unfold bne; rw [dE, dE, dI]; rfl
  rw [e]
  clear e
  cases h0 : ((b.toNat : Int) == 9) <;> cases h1 : decide ((32 : Int) ≤ (b.toNat : Int)) <;>
  · go_enter Try.func29, Try.ntmps29
    go_wp2
    go_ret
    exact ⟨rfl, rfl⟩

set_option maxHeartbeats 400000 in
theorem refQuoted_any (b : UInt8) (w : World) :
    Calls Try.prog 33 #[.int .u8 (b.toNat : Int)] w fun e w' => e = .returned (.bool (quoB b)) ∧ w = w' := by
  have e : quoB b = ((b.toNat : Int) == 9 || decide ((31 : Int) < (b.toNat : Int)) && (b.toNat : Int) != 127) := by have d : decide ((31 : Int) < (b.toNat : Int)) = decide (32 ≤ b.toNat) := (by rw [decide_eq_decide]; omega); rw [d]; unfold quoB; unfold bne; rw [dE, dE]; rfl
  rw [e]
  clear e
  cases h0 : ((b.toNat : Int) == 9) <;> cases h1 : decide ((31 : Int) < (b.toNat : Int)) <;>
  · go_enter Try.func33, Try.ntmps33
    go_wp2
    go_ret
    exact ⟨rfl, rfl⟩

set_option maxHeartbeats 400000 in
theorem letter_any (b : UInt8) (w : World) :
    Calls Try.prog 66 #[.int .u8 (b.toNat : Int)] w fun e w' => e = .returned (.bool (letB b)) ∧ w = w' := by
  have e : letB b = (decide ((97 : Int) ≤ ((lowB b).toNat : Int)) && decide (((lowB b).toNat : Int) ≤ 122)) := by unfold letB lowerB; rw [dI, dJ]; rfl
  rw [e]
  clear e
  cases h0 : decide ((97 : Int) ≤ ((lowB b).toNat : Int)) <;>
  · go_enter Try.func66, Try.ntmps66
    go_wp2_with (go_at_call 52; refine (lower1_any b _).mono ?_; rintro e w' ⟨rfl, rfl⟩)
    go_ret
    exact ⟨rfl, rfl⟩

set_option maxHeartbeats 400000 in
theorem refLetter_any (b : UInt8) (w : World) :
    Calls Try.prog 55 #[.int .u8 (b.toNat : Int)] w fun e w' => e = .returned (.bool (letB b)) ∧ w = w' := by
  have e : letB b = (decide ((97 : Int) ≤ (b.toNat : Int)) && decide ((b.toNat : Int) ≤ 122) || decide ((65 : Int) ≤ (b.toNat : Int)) && decide ((b.toNat : Int) ≤ 90)) := by rw [letB_eq, dI, dJ, dI, dJ]; rfl
  rw [e]
  clear e
  cases h0 : decide ((97 : Int) ≤ (b.toNat : Int)) <;> cases h1 : decide ((b.toNat : Int) ≤ 122) <;> cases h2 : decide ((65 : Int) ≤ (b.toNat : Int)) <;>
  · go_enter Try.func55, Try.ntmps55
    go_wp2
    go_ret
    exact ⟨rfl, rfl⟩

set_option maxHeartbeats 400000 in
theorem white_any (b : UInt8) (w : World) :
    Calls Try.prog 60 #[.int .u8 (b.toNat : Int)] w fun e w' => e = .returned (.bool (whiB b)) ∧ w = w' := by
  have e : whiB b = (tabB b || (b.toNat : Int) == 10 || (b.toNat : Int) == 13) := by unfold whiB; rw [dE, dE]; rfl
  rw [e]
  clear e
  cases h0 : tabB b <;> cases h1 : ((b.toNat : Int) == 10) <;>
  · go_enter Try.func60, Try.ntmps60
    go_wp2_with (go_at_call 70; refine (tab_any b _).mono ?_; rintro e w' ⟨rfl, rfl⟩; simp only [*])
    go_ret
    exact ⟨rfl, rfl⟩

theorem indexByte2_any (s : ByteArray) (b : UInt8) (w : World) : (callFunc 89 #[.string s, .int .u8 (b.toNat : Int)]).run Try.prog w = .ok (.value (.int .i64 (firstIdx s b))) w := by
  rw [run_callFunc_extern (fn := Try.f89) (e := Extern.BytealgIndexByte.indexByte) Try.func89 rfl rfl rfl rfl]
  rw [run_indexByte_string]
  simp [Result.andThen]

set_option maxHeartbeats 400000 in
theorem indexByte1_any (s : ByteArray) (b : UInt8) (w : World) :
    Calls Try.prog 80 #[.string s, .int .u8 (b.toNat : Int)] w fun e w' => e = .returned (.int .i64 (firstIdx s b)) ∧ w = w' := by
  have hx := indexByte2_any s b
  go_enter Try.func80, Try.ntmps80
  go_wp2
  go_ret
  exact ⟨rfl, rfl⟩

set_option maxHeartbeats 400000 in
theorem indexByte_any (s : ByteArray) (b : UInt8) (w : World) :
    Calls Try.prog 68 #[.string s, .int .u8 (b.toNat : Int)] w fun e w' => e = .returned (.int .i64 (firstIdx s b)) ∧ w = w' := by
  go_enter Try.func68, Try.ntmps68
  go_wp2_with (go_at_call 80; refine (indexByte1_any s b _).mono ?_; rintro e w' ⟨rfl, rfl⟩)
  go_ret
  exact ⟨rfl, rfl⟩

set_option maxHeartbeats 400000 in
theorem token_any (b : UInt8) (w : World) :
    Calls Try.prog 51 #[.int .u8 (b.toNat : Int)] w fun e w' => e = .returned (.bool (tokB b)) ∧ w = w' := by
  have e : tokB b = (letB b || digB b || decide ((0 : Int) ≤ firstIdx marks b)) := by rw [marks_first]; rfl
  have hx : ∀ w, Calls Try.prog 68 #[.string marks, .int .u8 (b.toNat : Int)] w fun e w' => e = .returned (.int .i64 (firstIdx marks b)) ∧ w = w' := indexByte_any marks b
  rw [e]
  clear e
  generalize firstIdx marks b = i at *
  cases h0 : letB b <;> cases h1 : digB b <;>
  · go_enter Try.func51, Try.ntmps51
    go_wp2_with (first
      | (go_at_call 66; refine (letter_any b _).mono ?_; rintro e w' ⟨rfl, rfl⟩; simp only [*])
      | (go_at_call 67; refine (digit_any b _).mono ?_; rintro e w' ⟨rfl, rfl⟩; simp only [*])
      | (go_at_call 68; refine (hx _).mono ?_; rintro e w' ⟨rfl, rfl⟩))
    go_ret
    exact ⟨rfl, rfl⟩

set_option maxHeartbeats 400000 in
theorem refToken_any (b : UInt8) (w : World) :
    Calls Try.prog 42 #[.int .u8 (b.toNat : Int)] w fun e w' => e = .returned (.bool (tokB b)) ∧ w = w' := by
  have e : tokB b = (letB b || digB b || hasB marks b) := rfl
  have hx : ∀ w, Calls Try.prog 57 #[.string marks, .int .u8 (b.toNat : Int)] w fun e w' => e = .returned (.bool (hasB marks b)) ∧ w = w' := fun w => has_any marks b w (of_decide_eq_true rfl)
  rw [e]
  clear e
  generalize hasB marks b = i at *
  cases h0 : letB b <;> cases h1 : digB b <;>
  · go_enter Try.func42, Try.ntmps42
    go_wp2_with (first
      | (go_at_call 55; refine (refLetter_any b _).mono ?_; rintro e w' ⟨rfl, rfl⟩; simp only [*])
      | (go_at_call 56; refine (refDigit_any b _).mono ?_; rintro e w' ⟨rfl, rfl⟩; simp only [*])
      | (go_at_call 57; refine (hx _).mono ?_; rintro e w' ⟨rfl, rfl⟩))
    go_ret
    exact ⟨rfl, rfl⟩

/-- What Hex answers: of none, 0 and false. -/
def hexV (b : UInt8) : Value := if 0 ≤ hexB b then .tuple #[.int .i64 (hexB b), .bool true] else .tuple #[.int .i64 0, .bool false]
end Go.Proofs.Ytmepnfkgfbbkiaa

/-
  What package class's functions of one byte answer, and those of the document's own answer. No condition.
-/
import Derived.Test.YthaighaikddniaaRows
import Derived.Test.YthaighaikddniaaByte
import Derived.Test.YthaighaikddniaaHas
import Derived.WalkKit
import Derived.WalkSpells
import Derived.WalkLawsBesides
import Derived.Laws.Externs
namespace Go.Proofs.Ythaighaikddniaa
open Go.RowKit

theorem dI (a : Nat) (b : UInt8) : decide (a ≤ b.toNat) = decide ((a : Int) ≤ (b.toNat : Int)) := by simp
theorem dJ (a : Nat) (b : UInt8) : decide (b.toNat ≤ a) = decide ((b.toNat : Int) ≤ (a : Int)) := by simp
theorem dE (a : Nat) (b : UInt8) : (b.toNat == a) = ((b.toNat : Int) == (a : Int)) := by
  rw [Bool.eq_iff_iff, beq_iff_eq, beq_iff_eq]
  omega

set_option maxHeartbeats 400000 in
theorem lower1_any (b : UInt8) (w : World) :
    Calls Try.prog 32 #[.int .u8 (b.toNat : Int)] w fun e w' => e = .returned (.int .u8 ((lowB b).toNat : Int)) ∧ w = w' := by
  have hb := b.toNat_lt
  by_cases h : 65 ≤ b.toNat ∧ b.toNat ≤ 90
  · have e : (lowB b).toNat = b.toNat + 32 := by
      unfold lowB
      rw [if_pos (by simpa using h), UInt8.toNat_ofNat']
      omega
    rw [e]
    have h1 : (65 : Int) ≤ (b.toNat : Int) := by omega
    have h2 : (b.toNat : Int) ≤ 90 := by omega
    clear e
    go_enter Try.func32, Try.ntmps32
    go_wp2
    go_ret
    refine ⟨?_, rfl⟩
    go_num
  · have e : lowB b = b := by
      unfold lowB
      rw [if_neg (by simpa using h)]
    rw [e]
    clear e
    by_cases h1 : (65 : Int) ≤ (b.toNat : Int)
    · have h2 : decide ((b.toNat : Int) ≤ 90) = false := by simp; omega
      go_enter Try.func32, Try.ntmps32
      go_wp2
      go_ret
      exact ⟨rfl, rfl⟩
    · have h2 : decide ((65 : Int) ≤ (b.toNat : Int)) = false := by simp; omega
      go_enter Try.func32, Try.ntmps32
      go_wp2
      go_ret
      exact ⟨rfl, rfl⟩

set_option maxHeartbeats 400000 in
theorem digit_any (b : UInt8) (w : World) :
    Calls Try.prog 16 #[.int .u8 (b.toNat : Int)] w fun e w' => e = .returned (.bool (digB b)) ∧ w = w' := by
  have e : digB b = (decide ((48 : Int) ≤ (b.toNat : Int)) && decide ((b.toNat : Int) ≤ 57)) := by unfold digB; rw [dI, dJ]; rfl
  rw [e]
  clear e
  cases h1 : decide ((48 : Int) ≤ (b.toNat : Int)) <;>
  · go_enter Try.func16, Try.ntmps16
    go_wp2
    go_ret
    exact ⟨rfl, rfl⟩

set_option maxHeartbeats 400000 in
theorem refDigit_any (b : UInt8) (w : World) :
    Calls Try.prog 17 #[.int .u8 (b.toNat : Int)] w fun e w' => e = .returned (.bool (digB b)) ∧ w = w' := by
  have e : digB b = (decide ((48 : Int) ≤ (b.toNat : Int)) && decide ((b.toNat : Int) ≤ 57)) := by unfold digB; rw [dI, dJ]; rfl
  rw [e]
  clear e
  cases h0 : decide ((48 : Int) ≤ (b.toNat : Int)) <;>
  · go_enter Try.func17, Try.ntmps17
    go_wp2
    go_ret
    exact ⟨rfl, rfl⟩

set_option maxHeartbeats 400000 in
theorem tab_any (b : UInt8) (w : World) :
    Calls Try.prog 14 #[.int .u8 (b.toNat : Int)] w fun e w' => e = .returned (.bool (tabB b)) ∧ w = w' := by
  have e : tabB b = ((b.toNat : Int) == 9 || (b.toNat : Int) == 32) := by unfold tabB; rw [dE, dE]; rfl
  rw [e]
  clear e
  cases h0 : ((b.toNat : Int) == 9) <;>
  · go_enter Try.func14, Try.ntmps14
    go_wp2
    go_ret
    exact ⟨rfl, rfl⟩

set_option maxHeartbeats 400000 in
theorem quoted_any (b : UInt8) (w : World) :
    Calls Try.prog 10 #[.int .u8 (b.toNat : Int)] w fun e w' => e = .returned (.bool (quoB b)) ∧ w = w' := by
  have e : quoB b = ((b.toNat : Int) == 9 || decide ((32 : Int) ≤ (b.toNat : Int)) && (b.toNat : Int) != 127) := by unfold quoB; unfold bne; rw [dE, dE, dI]; rfl
  rw [e]
  clear e
  cases h0 : ((b.toNat : Int) == 9) <;> cases h1 : decide ((32 : Int) ≤ (b.toNat : Int)) <;>
  · go_enter Try.func10, Try.ntmps10
    go_wp2
    go_ret
    exact ⟨rfl, rfl⟩

set_option maxHeartbeats 400000 in
theorem refQuoted_any (b : UInt8) (w : World) :
    Calls Try.prog 11 #[.int .u8 (b.toNat : Int)] w fun e w' => e = .returned (.bool (quoB b)) ∧ w = w' := by
  have e : quoB b = ((b.toNat : Int) == 9 || decide ((31 : Int) < (b.toNat : Int)) && (b.toNat : Int) != 127) := by have d : decide ((31 : Int) < (b.toNat : Int)) = decide (32 ≤ b.toNat) := (by rw [decide_eq_decide]; omega); rw [d]; unfold quoB; unfold bne; rw [dE, dE]; rfl
  rw [e]
  clear e
  cases h0 : ((b.toNat : Int) == 9) <;> cases h1 : decide ((31 : Int) < (b.toNat : Int)) <;>
  · go_enter Try.func11, Try.ntmps11
    go_wp2
    go_ret
    exact ⟨rfl, rfl⟩

set_option maxHeartbeats 400000 in
theorem letter_any (b : UInt8) (w : World) :
    Calls Try.prog 18 #[.int .u8 (b.toNat : Int)] w fun e w' => e = .returned (.bool (letB b)) ∧ w = w' := by
  have e : letB b = (decide ((97 : Int) ≤ ((lowB b).toNat : Int)) && decide (((lowB b).toNat : Int) ≤ 122)) := by unfold letB lowerB; rw [dI, dJ]; rfl
  rw [e]
  clear e
  cases h0 : decide ((97 : Int) ≤ ((lowB b).toNat : Int)) <;>
  · go_enter Try.func18, Try.ntmps18
    go_wp2_with (go_at_call 32; refine (lower1_any b _).mono ?_; rintro e w' ⟨rfl, rfl⟩)
    go_ret
    exact ⟨rfl, rfl⟩

set_option maxHeartbeats 400000 in
theorem refLetter_any (b : UInt8) (w : World) :
    Calls Try.prog 19 #[.int .u8 (b.toNat : Int)] w fun e w' => e = .returned (.bool (letB b)) ∧ w = w' := by
  have e : letB b = (decide ((97 : Int) ≤ (b.toNat : Int)) && decide ((b.toNat : Int) ≤ 122) || decide ((65 : Int) ≤ (b.toNat : Int)) && decide ((b.toNat : Int) ≤ 90)) := by rw [letB_eq, dI, dJ, dI, dJ]; rfl
  rw [e]
  clear e
  cases h0 : decide ((97 : Int) ≤ (b.toNat : Int)) <;> cases h1 : decide ((b.toNat : Int) ≤ 122) <;> cases h2 : decide ((65 : Int) ≤ (b.toNat : Int)) <;>
  · go_enter Try.func19, Try.ntmps19
    go_wp2
    go_ret
    exact ⟨rfl, rfl⟩

set_option maxHeartbeats 400000 in
theorem white_any (b : UInt8) (w : World) :
    Calls Try.prog 12 #[.int .u8 (b.toNat : Int)] w fun e w' => e = .returned (.bool (whiB b)) ∧ w = w' := by
  have e : whiB b = (tabB b || (b.toNat : Int) == 10 || (b.toNat : Int) == 13) := by unfold whiB; rw [dE, dE]; rfl
  rw [e]
  clear e
  cases h0 : tabB b <;> cases h1 : ((b.toNat : Int) == 10) <;>
  · go_enter Try.func12, Try.ntmps12
    go_wp2_with (go_at_call 14; refine (tab_any b _).mono ?_; rintro e w' ⟨rfl, rfl⟩; simp only [*])
    go_ret
    exact ⟨rfl, rfl⟩

set_option maxHeartbeats 400000 in
theorem refWhite_any (b : UInt8) (w : World) :
    Calls Try.prog 13 #[.int .u8 (b.toNat : Int)] w fun e w' => e = .returned (.bool (whiB b)) ∧ w = w' := by
  rw [← whiB_has]
  go_enter Try.func13, Try.ntmps13
  go_wp2_with (go_at_call 34; refine (has_any _ b _ (of_decide_eq_true rfl)).mono ?_; rintro e w' ⟨rfl, rfl⟩)
  go_ret
  exact ⟨rfl, rfl⟩

set_option maxHeartbeats 400000 in
theorem refTab_any (b : UInt8) (w : World) :
    Calls Try.prog 15 #[.int .u8 (b.toNat : Int)] w fun e w' => e = .returned (.bool (tabB b)) ∧ w = w' := by
  rw [← tabB_has]
  go_enter Try.func15, Try.ntmps15
  go_wp2_with (go_at_call 34; refine (has_any _ b _ (of_decide_eq_true rfl)).mono ?_; rintro e w' ⟨rfl, rfl⟩)
  go_ret
  exact ⟨rfl, rfl⟩

theorem indexByte2_any (s : ByteArray) (b : UInt8) (w : World) : (callFunc 42 #[.string s, .int .u8 (b.toNat : Int)]).run Try.prog w = .ok (.value (.int .i64 (firstIdx s b))) w := by
  rw [run_callFunc_extern (fn := Try.f42) (e := Extern.BytealgIndexByte.indexByte) Try.func42 rfl rfl rfl rfl]
  rw [run_indexByte_string]
  simp [Result.andThen]

set_option maxHeartbeats 400000 in
theorem indexByte1_any (s : ByteArray) (b : UInt8) (w : World) :
    Calls Try.prog 39 #[.string s, .int .u8 (b.toNat : Int)] w fun e w' => e = .returned (.int .i64 (firstIdx s b)) ∧ w = w' := by
  have hx := indexByte2_any s b
  go_enter Try.func39, Try.ntmps39
  go_wp2
  go_ret
  exact ⟨rfl, rfl⟩

set_option maxHeartbeats 400000 in
theorem indexByte_any (s : ByteArray) (b : UInt8) (w : World) :
    Calls Try.prog 33 #[.string s, .int .u8 (b.toNat : Int)] w fun e w' => e = .returned (.int .i64 (firstIdx s b)) ∧ w = w' := by
  go_enter Try.func33, Try.ntmps33
  go_wp2_with (go_at_call 39; refine (indexByte1_any s b _).mono ?_; rintro e w' ⟨rfl, rfl⟩)
  go_ret
  exact ⟨rfl, rfl⟩

set_option maxHeartbeats 400000 in
theorem token_any (b : UInt8) (w : World) :
    Calls Try.prog 8 #[.int .u8 (b.toNat : Int)] w fun e w' => e = .returned (.bool (tokB b)) ∧ w = w' := by
  have e : tokB b = (letB b || digB b || decide ((0 : Int) ≤ firstIdx marks b)) := by rw [marks_first]; rfl
  have hx : ∀ w, Calls Try.prog 33 #[.string marks, .int .u8 (b.toNat : Int)] w fun e w' => e = .returned (.int .i64 (firstIdx marks b)) ∧ w = w' := indexByte_any marks b
  rw [e]
  clear e
  generalize firstIdx marks b = i at *
  cases h0 : letB b <;> cases h1 : digB b <;>
  · go_enter Try.func8, Try.ntmps8
    go_wp2_with (first
      | (go_at_call 18; refine (letter_any b _).mono ?_; rintro e w' ⟨rfl, rfl⟩; simp only [*])
      | (go_at_call 16; refine (digit_any b _).mono ?_; rintro e w' ⟨rfl, rfl⟩; simp only [*])
      | (go_at_call 33; refine (hx _).mono ?_; rintro e w' ⟨rfl, rfl⟩))
    go_ret
    exact ⟨rfl, rfl⟩

set_option maxHeartbeats 400000 in
theorem refToken_any (b : UInt8) (w : World) :
    Calls Try.prog 9 #[.int .u8 (b.toNat : Int)] w fun e w' => e = .returned (.bool (tokB b)) ∧ w = w' := by
  have e : tokB b = (letB b || digB b || hasB marks b) := rfl
  have hx : ∀ w, Calls Try.prog 34 #[.string marks, .int .u8 (b.toNat : Int)] w fun e w' => e = .returned (.bool (hasB marks b)) ∧ w = w' := fun w => has_any marks b w (of_decide_eq_true rfl)
  rw [e]
  clear e
  generalize hasB marks b = i at *
  cases h0 : letB b <;> cases h1 : digB b <;>
  · go_enter Try.func9, Try.ntmps9
    go_wp2_with (first
      | (go_at_call 19; refine (refLetter_any b _).mono ?_; rintro e w' ⟨rfl, rfl⟩; simp only [*])
      | (go_at_call 17; refine (refDigit_any b _).mono ?_; rintro e w' ⟨rfl, rfl⟩; simp only [*])
      | (go_at_call 34; refine (hx _).mono ?_; rintro e w' ⟨rfl, rfl⟩))
    go_ret
    exact ⟨rfl, rfl⟩

set_option maxHeartbeats 400000 in
theorem hex_digit (b : UInt8) (w : World) (h : digB b = true) :
    Calls Try.prog 6 #[.int .u8 (b.toNat : Int)] w fun e w' => e = .returned (.tuple #[.int .i64 (hexB b), .bool true]) ∧ w = w' := by
  have hb : 48 ≤ b.toNat ∧ b.toNat ≤ 57 := by unfold digB at h; simpa using h
  have e : hexB b = (b.toNat : Int) - 48 := by unfold hexB; rw [if_pos h]
  have h1 : (0 : Int) ≤ (b.toNat : Int) - 48 := by omega
  have h2 : (b.toNat : Int) - 48 ≤ 255 := by omega
  rw [e]
  clear e hb
  go_enter Try.func6, Try.ntmps6
  go_wp2_with (first
    | (go_at_call 32; refine (lower1_any b _).mono ?_; rintro e w' ⟨rfl, rfl⟩)
    | (go_at_call 16; refine (digit_any b _).mono ?_; rintro e w' ⟨rfl, rfl⟩; simp only [*]))
  go_ret2
  exact ⟨rfl, rfl⟩

set_option maxHeartbeats 400000 in
theorem hex_letter (b : UInt8) (w : World) (h : digB b = false) (h1 : 97 ≤ (lowB b).toNat) (h2 : (lowB b).toNat ≤ 102) :
    Calls Try.prog 6 #[.int .u8 (b.toNat : Int)] w fun e w' => e = .returned (.tuple #[.int .i64 (hexB b), .bool true]) ∧ w = w' := by
  have e : hexB b = ((lowB b).toNat : Int) - 97 + 10 := by unfold hexB; rw [if_neg (by simp [h]), if_pos (by simp [h1, h2])]; omega
  have g1 : (97 : Int) ≤ ((lowB b).toNat : Int) := by omega
  have g2 : ((lowB b).toNat : Int) ≤ 102 := by omega
  have g3 : (0 : Int) ≤ ((lowB b).toNat : Int) - 97 := by omega
  have g4 : ((lowB b).toNat : Int) - 97 ≤ 255 := by omega
  rw [e]
  clear e h1 h2
  go_enter Try.func6, Try.ntmps6
  go_wp2_with (first
    | (go_at_call 32; refine (lower1_any b _).mono ?_; rintro e w' ⟨rfl, rfl⟩)
    | (go_at_call 16; refine (digit_any b _).mono ?_; rintro e w' ⟨rfl, rfl⟩; simp only [*]))
  go_ret2
  exact ⟨rfl, rfl⟩

set_option maxHeartbeats 400000 in
theorem hex_none (b : UInt8) (w : World) (h : digB b = false) (h1 : ¬ (97 ≤ (lowB b).toNat ∧ (lowB b).toNat ≤ 102)) :
    Calls Try.prog 6 #[.int .u8 (b.toNat : Int)] w fun e w' => e = .returned (.tuple #[.int .i64 0, .bool false]) ∧ w = w' := by
  have g : decide ((97 : Int) ≤ ((lowB b).toNat : Int)) = false ∨ decide ((97 : Int) ≤ ((lowB b).toNat : Int)) = true ∧ decide (((lowB b).toNat : Int) ≤ 102) = false := by
    simp
    omega
  clear h1
  rcases g with g1 | ⟨g1, g2⟩ <;>
  · go_enter Try.func6, Try.ntmps6
    go_wp2_with (first
      | (go_at_call 32; refine (lower1_any b _).mono ?_; rintro e w' ⟨rfl, rfl⟩)
      | (go_at_call 16; refine (digit_any b _).mono ?_; rintro e w' ⟨rfl, rfl⟩; simp only [*]))
    go_ret2
    exact ⟨rfl, rfl⟩

/-- What Hex answers: of none, 0 and false. -/
def hexV (b : UInt8) : Value := if 0 ≤ hexB b then .tuple #[.int .i64 (hexB b), .bool true] else .tuple #[.int .i64 0, .bool false]
theorem hex_any (b : UInt8) (w : World) :
    Calls Try.prog 6 #[.int .u8 (b.toNat : Int)] w fun e w' => e = .returned (hexV b) ∧ w = w' := by
  by_cases h : digB b = true
  · have e : hexV b = .tuple #[.int .i64 (hexB b), .bool true] := by
      have hb : 48 ≤ b.toNat ∧ b.toNat ≤ 57 := by unfold digB at h; simpa using h
      unfold hexV
      rw [if_pos (by unfold hexB; rw [if_pos h]; omega)]
    rw [e]
    exact hex_digit b w h
  have h : digB b = false := by simpa using h
  by_cases h1 : 97 ≤ (lowB b).toNat ∧ (lowB b).toNat ≤ 102
  · have e : hexV b = .tuple #[.int .i64 (hexB b), .bool true] := by
      unfold hexV
      rw [if_pos (by unfold hexB; rw [if_neg (by simp [h]), if_pos (by simp [h1])]; omega)]
    rw [e]
    exact hex_letter b w h h1.1 h1.2
  · have e : hexV b = .tuple #[.int .i64 0, .bool false] := by
      unfold hexV
      rw [if_neg (by unfold hexB; rw [if_neg (by simp [h]), if_neg (by simpa using h1)]; omega)]
    rw [e]
    exact hex_none b w h h1

set_option maxHeartbeats 1000000 in
theorem refHex_any (b : UInt8) (w : World) :
    Calls Try.prog 7 #[.int .u8 (b.toNat : Int)] w fun e w' => e = .returned (.int .i64 (hexB b)) ∧ w = w' := by
  go_enter Try.func7, Try.ntmps7
  go_wp2
  go_loop [5] (fun i => ∃ k : Nat, k ≤ 16 ∧ i = .int .i64 k ∧ ∀ j (hj : j < 16), j < k → (hexS[j]'(by rw [hexS_size]; exact hj)).toNat ≠ b.toNat ∧ (hexT[j]'(by rw [hexT_size]; exact hj)).toNat ≠ b.toNat) (fun i => 16 - (intOf i).toNat)
  case atStart => exact ⟨0, by omega, rfl, fun j _ h => absurd h (by omega)⟩
  case round =>
    obtain ⟨k, hk, rfl, hno⟩ := hrel
    have HN := Lib.hid hno
    clear hno
    obtain ⟨S, hS⟩ : ∃ S, S = hexS := ⟨_, rfl⟩
    obtain ⟨T, hT⟩ : ∃ T, T = hexT := ⟨_, rfl⟩
    have eS : (⟨#[48, 49, 50, 51, 52, 53, 54, 55, 56, 57, 97, 98, 99, 100, 101, 102]⟩ : ByteArray) = S := hS.symm
    have eT : (⟨#[48, 49, 50, 51, 52, 53, 54, 55, 56, 57, 65, 66, 67, 68, 69, 70]⟩ : ByteArray) = T := hT.symm
    rw [eS, eT]
    clear eS eT
    by_cases hlt : k < 16
    · have hlS : k < S.size := by rw [hS]; exact hlt
      have hlT : k < T.size := by rw [hT]; exact hlt
      have HS : Hid (S[k].toNat = (hexS[k]'(by rw [hexS_size]; exact hlt)).toNat) := by subst hS; rfl
      have HT : Hid (T[k].toNat = (hexT[k]'(by rw [hexT_size]; exact hlt)).toNat) := by subst hT; rfl
      clear hS hT
      cases d1 : ((S[k].toNat : Int) == (b.toNat : Int))
      · cases d2 : ((T[k].toNat : Int) == (b.toNat : Int))
        · have HE : Hid (S[k].toNat ≠ b.toNat ∧ T[k].toNat ≠ b.toNat) := ⟨fun e => by rw [e] at d1; simp at d1, fun e => by rw [e] at d2; simp at d2⟩
          go_wp2
          go_round
          case rel =>
            refine ⟨k + 1, by omega, by go_num, fun j hj h => ?_⟩
            by_cases h1 : j = k
            · subst h1
              exact ⟨by rw [← HS.out]; exact HE.out.1, by rw [← HT.out]; exact HE.out.2⟩
            · exact HN.out j hj (by omega)
          case measure => simp [intOf]; omega
        · have HA : Hid (hexB b = k) := hexB_at hlt (Or.inr (by rw [← HT.out]; have := beq_iff_eq.1 d2; omega))
          go_wp2
          go_ret
          exact ⟨by rw [HA.out]; rfl, rfl⟩
      · have HA : Hid (hexB b = k) := hexB_at hlt (Or.inl (by rw [← HS.out]; have := beq_iff_eq.1 d1; omega))
        go_wp2
        go_ret
        exact ⟨by rw [HA.out]; rfl, rfl⟩
    · obtain rfl : k = 16 := by omega
      have HA : Hid (hexB b = -1) := hexB_no fun j hj => HN.out j hj hj
      clear hS hT
      go_wp2
      go_ret
      exact ⟨by rw [HA.out]; rfl, rfl⟩

end Go.Proofs.Ythaighaikddniaa

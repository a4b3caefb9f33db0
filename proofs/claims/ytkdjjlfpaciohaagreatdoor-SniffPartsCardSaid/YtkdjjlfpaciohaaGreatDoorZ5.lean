/-
  What Good and Ends of package mask answer, and the document's own Good and and. Condition: texts are as long as a length can be.
  The table of which bytes are among some, as an array in memory. No condition.
  What Begins and behind of package mask answer, and the document's own Begins: how many bytes of some stand ahead. Condition: texts are as long as a length can be.
-/
import Derived.Test.YtkdjjlfpaciohaaGreatDoorZ4
import Derived.Test.YtkdjjlfpaciohaaGreatDoorZ2
import Derived.Test.YtkdjjlfpaciohaaGreatDoorZ3
import Derived.BigQuiet
import Derived.Deep.QuietTactic
import Derived.OwnWalk
import Derived.LoopTactic
import Derived.Laws.BitsAllLaws
import Derived.Test.YtkdjjlfpaciohaaGreatDoorRows
import Derived.Test.YtkdjjlfpaciohaaGreatDoorZ1
import Derived.WalkKit
import Derived.KernelRfl
import Derived.OneCell
import Derived.Lib.Hide
namespace Go.Proofs.YtkdjjlfpaciohaaGreatDoor
open Go.RowKit

/-- A pattern. -/
abbrev patV (b m k t : ByteArray) : Value := .agg #[.string b, .string m, .string k, .string t]

theorem none_size {b : ByteArray} : b.toList = [] ↔ b.size = 0 := by
  rw [← toList_size, List.length_eq_zero_iff]
theorem good_way (b m : ByteArray) : goodP b m = (!b.toList.isEmpty && (decide ((b.size : Int) ≤ 64) && ((m.size : Int) == (b.size : Int)))) := by
  unfold goodP
  rw [Bool.eq_iff_iff]
  simp only [Bool.and_eq_true, decide_eq_true_eq, Bool.not_eq_true', beq_iff_eq, List.isEmpty_eq_false_iff, ne_eq, none_size]
  omega
theorem good_way2 (b m : ByteArray) : goodP b m = (decide (0 < (b.size : Int)) && (decide ((b.size : Int) < 65) && ((b.size : Int) == (m.size : Int)))) := by
  unfold goodP
  rw [Bool.eq_iff_iff]
  simp only [Bool.and_eq_true, decide_eq_true_eq, beq_iff_eq]
  omega

set_option maxHeartbeats 400000 in
theorem good_any (b m k t : ByteArray) (w : World) (hb : b.size ≤ 9223372036854775807) (_hm : m.size ≤ 9223372036854775807) :
    Calls Tryz.prog 129 #[patV b m k t] w fun e w' => e = .returned (.bool (goodP b m)) ∧ Below w.heap.size w w' := by
  have H := Lib.hid (good_way b m)
  go_enter Tryz.func129, Tryz.ntmps129
  go_wp2
  all_goals
    go_ret
    refine ⟨?_, (Below.refl _ _).alloc (Nat.le_refl _) _⟩
    rw [H.out]
    simp [*]
    try omega

set_option maxHeartbeats 400000 in
theorem refGood_any (b m k t : ByteArray) (w : World) (hb : b.size ≤ 9223372036854775807) (_hm : m.size ≤ 9223372036854775807) :
    Calls Tryz.prog 111 #[patV b m k t] w fun e w' => e = .returned (.bool (goodP b m)) ∧ Below w.heap.size w w' := by
  have H := Lib.hid (good_way2 b m)
  go_enter Tryz.func111, Tryz.ntmps111
  go_wp2
  all_goals
    go_ret
    refine ⟨?_, (Below.refl _ _).alloc (Nat.le_refl _) _⟩
    rw [H.out]
    simp [*]
    try omega


set_option maxHeartbeats 400000 in
theorem mends_any (s : ByteArray) (n : Int) (w : World) (_hs : s.size ≤ 9223372036854775807) :
    Calls Tryz.prog 104 #[.string s, .int .i64 n] w fun e w' => e = .returned (.bool (endB s n)) ∧ w = w' := by
  have hx : ∀ h : n.toNat < s.size, (s[n.toNat]!.toNat : Int) = (s[n.toNat].toNat : Int) := fun h => by rw [getElem!_pos s _ h]
  have HX := Lib.hid hx
  clear hx
  go_enter Tryz.func104, Tryz.ntmps104
  go_wp2
  all_goals
    go_ret
    refine ⟨?_, rfl⟩
    unfold endB
    rw [dE, dE]
  · rw [HX.out (by omega)]
    simp [*]
  · rw [HX.out (by omega)]
    simp [*]
  · have : decide (n < (s.size : Int)) = false := by simp; omega
    rw [this]
    simp
  · have : decide (0 ≤ n) = false := by simp; omega
    rw [this]
    simp

/-- The bits that two bytes have both. -/
def andB (a b : UInt8) : UInt8 := a &&& b

set_option maxHeartbeats 1600000 in
theorem and_any (a b : UInt8) (w : World) :
    Calls Tryz.prog 136 #[.int .u8 (a.toNat : Int), .int .u8 (b.toNat : Int)] w fun e w' => e = .returned (.int .u8 ((andB a b).toNat : Int)) ∧ w = w' := by
  have ha := a.toNat_lt
  have hb := b.toNat_lt
  go_enter Tryz.func136, Tryz.ntmps136
  go_wp2
  go_loop [5, 6, 7] (fun o t i => ∃ k : Nat, k ≤ 8 ∧ i = .int .i64 k ∧ t = .int .i64 (2 ^ k : Nat) ∧ o = .int .i64 ((andB a b).toNat % 2 ^ k : Nat)) (fun _ _ i => 8 - (intOf i).toNat)
  case atStart => exact ⟨0, by omega, rfl, rfl, by simp⟩
  case round =>
    obtain ⟨k, hk, rfl, rfl, rfl⟩ := hrel
    match k, hk with
    | 0, _ =>
      obtain ⟨r, hr⟩ : ∃ r, r = (andB a b).toNat % 2 ^ 0 := ⟨_, rfl⟩
      have hr2 : r < 1 := by rw [hr]; exact Nat.mod_lt _ (by decide)
      have key : (andB a b).toNat % 2 ^ 1 = r + (if a.toNat / 1 % 2 = 1 ∧ b.toNat / 1 % 2 = 1 then 1 else 0) := by rw [hr]; exact and_step a b 0
      rw [← hr]
      have HK := Lib.hid key
      clear key hr
      by_cases h1 : a.toNat / 1 % 2 = 1 <;> by_cases h2 : b.toNat / 1 % 2 = 1
      · have HF := Lib.hid (show (andB a b).toNat % 2 ^ 1 = r + 1 from by rw [HK.out, if_pos ⟨h1, h2⟩])
        have d1 : ((a.toNat : Int)  % 2 == 1) = true := by rw [beq_iff_eq]; omega
        have d2 : ((b.toNat : Int)  % 2 == 1) = true := by rw [beq_iff_eq]; omega
        clear h1 h2
        go_wp2
        go_round
        case rel => exact ⟨1, by omega, rfl, rfl, by rw [HF.out]; go_num⟩
        case measure => simp [intOf]
      · have HF := Lib.hid (show (andB a b).toNat % 2 ^ 1 = r from by rw [HK.out, if_neg (fun h => h2 h.2)]; rfl)
        have d1 : ((a.toNat : Int)  % 2 == 1) = true := by rw [beq_iff_eq]; omega
        have d2 : ((b.toNat : Int)  % 2 == 1) = false := by rw [beq_eq_false_iff_ne]; omega
        clear h1 h2
        go_wp2
        go_round
        case rel => exact ⟨1, by omega, rfl, rfl, by rw [HF.out]⟩
        case measure => simp [intOf]
      all_goals
        have HF := Lib.hid (show (andB a b).toNat % 2 ^ 1 = r from by rw [HK.out, if_neg (fun h => h1 h.1)]; rfl)
        have d1 : ((a.toNat : Int)  % 2 == 1) = false := by rw [beq_eq_false_iff_ne]; omega
        clear h1 h2
        go_wp2
        go_round
        case rel => exact ⟨1, by omega, rfl, rfl, by rw [HF.out]⟩
        case measure => simp [intOf]
    | 1, _ =>
      obtain ⟨r, hr⟩ : ∃ r, r = (andB a b).toNat % 2 ^ 1 := ⟨_, rfl⟩
      have hr2 : r < 2 := by rw [hr]; exact Nat.mod_lt _ (by decide)
      have key : (andB a b).toNat % 2 ^ 2 = r + (if a.toNat / 2 % 2 = 1 ∧ b.toNat / 2 % 2 = 1 then 2 else 0) := by rw [hr]; exact and_step a b 1
      rw [← hr]
      have HK := Lib.hid key
      clear key hr
      by_cases h1 : a.toNat / 2 % 2 = 1 <;> by_cases h2 : b.toNat / 2 % 2 = 1
      · have HF := Lib.hid (show (andB a b).toNat % 2 ^ 2 = r + 2 from by rw [HK.out, if_pos ⟨h1, h2⟩])
        have d1 : ((a.toNat : Int) / 2 % 2 == 1) = true := by rw [beq_iff_eq]; omega
        have d2 : ((b.toNat : Int) / 2 % 2 == 1) = true := by rw [beq_iff_eq]; omega
        clear h1 h2
        go_wp2
        go_round
        case rel => exact ⟨2, by omega, rfl, rfl, by rw [HF.out]; go_num⟩
        case measure => simp [intOf]
      · have HF := Lib.hid (show (andB a b).toNat % 2 ^ 2 = r from by rw [HK.out, if_neg (fun h => h2 h.2)]; rfl)
        have d1 : ((a.toNat : Int) / 2 % 2 == 1) = true := by rw [beq_iff_eq]; omega
        have d2 : ((b.toNat : Int) / 2 % 2 == 1) = false := by rw [beq_eq_false_iff_ne]; omega
        clear h1 h2
        go_wp2
        go_round
        case rel => exact ⟨2, by omega, rfl, rfl, by rw [HF.out]⟩
        case measure => simp [intOf]
      all_goals
        have HF := Lib.hid (show (andB a b).toNat % 2 ^ 2 = r from by rw [HK.out, if_neg (fun h => h1 h.1)]; rfl)
        have d1 : ((a.toNat : Int) / 2 % 2 == 1) = false := by rw [beq_eq_false_iff_ne]; omega
        clear h1 h2
        go_wp2
        go_round
        case rel => exact ⟨2, by omega, rfl, rfl, by rw [HF.out]⟩
        case measure => simp [intOf]
    | 2, _ =>
      obtain ⟨r, hr⟩ : ∃ r, r = (andB a b).toNat % 2 ^ 2 := ⟨_, rfl⟩
      have hr2 : r < 4 := by rw [hr]; exact Nat.mod_lt _ (by decide)
      have key : (andB a b).toNat % 2 ^ 3 = r + (if a.toNat / 4 % 2 = 1 ∧ b.toNat / 4 % 2 = 1 then 4 else 0) := by rw [hr]; exact and_step a b 2
      rw [← hr]
      have HK := Lib.hid key
      clear key hr
      by_cases h1 : a.toNat / 4 % 2 = 1 <;> by_cases h2 : b.toNat / 4 % 2 = 1
      · have HF := Lib.hid (show (andB a b).toNat % 2 ^ 3 = r + 4 from by rw [HK.out, if_pos ⟨h1, h2⟩])
        have d1 : ((a.toNat : Int) / 4 % 2 == 1) = true := by rw [beq_iff_eq]; omega
        have d2 : ((b.toNat : Int) / 4 % 2 == 1) = true := by rw [beq_iff_eq]; omega
        clear h1 h2
        go_wp2
        go_round
        case rel => exact ⟨3, by omega, rfl, rfl, by rw [HF.out]; go_num⟩
        case measure => simp [intOf]
      · have HF := Lib.hid (show (andB a b).toNat % 2 ^ 3 = r from by rw [HK.out, if_neg (fun h => h2 h.2)]; rfl)
        have d1 : ((a.toNat : Int) / 4 % 2 == 1) = true := by rw [beq_iff_eq]; omega
        have d2 : ((b.toNat : Int) / 4 % 2 == 1) = false := by rw [beq_eq_false_iff_ne]; omega
        clear h1 h2
        go_wp2
        go_round
        case rel => exact ⟨3, by omega, rfl, rfl, by rw [HF.out]⟩
        case measure => simp [intOf]
      all_goals
        have HF := Lib.hid (show (andB a b).toNat % 2 ^ 3 = r from by rw [HK.out, if_neg (fun h => h1 h.1)]; rfl)
        have d1 : ((a.toNat : Int) / 4 % 2 == 1) = false := by rw [beq_eq_false_iff_ne]; omega
        clear h1 h2
        go_wp2
        go_round
        case rel => exact ⟨3, by omega, rfl, rfl, by rw [HF.out]⟩
        case measure => simp [intOf]
    | 3, _ =>
      obtain ⟨r, hr⟩ : ∃ r, r = (andB a b).toNat % 2 ^ 3 := ⟨_, rfl⟩
      have hr2 : r < 8 := by rw [hr]; exact Nat.mod_lt _ (by decide)
      have key : (andB a b).toNat % 2 ^ 4 = r + (if a.toNat / 8 % 2 = 1 ∧ b.toNat / 8 % 2 = 1 then 8 else 0) := by rw [hr]; exact and_step a b 3
      rw [← hr]
      have HK := Lib.hid key
      clear key hr
      by_cases h1 : a.toNat / 8 % 2 = 1 <;> by_cases h2 : b.toNat / 8 % 2 = 1
      · have HF := Lib.hid (show (andB a b).toNat % 2 ^ 4 = r + 8 from by rw [HK.out, if_pos ⟨h1, h2⟩])
        have d1 : ((a.toNat : Int) / 8 % 2 == 1) = true := by rw [beq_iff_eq]; omega
        have d2 : ((b.toNat : Int) / 8 % 2 == 1) = true := by rw [beq_iff_eq]; omega
        clear h1 h2
        go_wp2
        go_round
        case rel => exact ⟨4, by omega, rfl, rfl, by rw [HF.out]; go_num⟩
        case measure => simp [intOf]
      · have HF := Lib.hid (show (andB a b).toNat % 2 ^ 4 = r from by rw [HK.out, if_neg (fun h => h2 h.2)]; rfl)
        have d1 : ((a.toNat : Int) / 8 % 2 == 1) = true := by rw [beq_iff_eq]; omega
        have d2 : ((b.toNat : Int) / 8 % 2 == 1) = false := by rw [beq_eq_false_iff_ne]; omega
        clear h1 h2
        go_wp2
        go_round
        case rel => exact ⟨4, by omega, rfl, rfl, by rw [HF.out]⟩
        case measure => simp [intOf]
      all_goals
        have HF := Lib.hid (show (andB a b).toNat % 2 ^ 4 = r from by rw [HK.out, if_neg (fun h => h1 h.1)]; rfl)
        have d1 : ((a.toNat : Int) / 8 % 2 == 1) = false := by rw [beq_eq_false_iff_ne]; omega
        clear h1 h2
        go_wp2
        go_round
        case rel => exact ⟨4, by omega, rfl, rfl, by rw [HF.out]⟩
        case measure => simp [intOf]
    | 4, _ =>
      obtain ⟨r, hr⟩ : ∃ r, r = (andB a b).toNat % 2 ^ 4 := ⟨_, rfl⟩
      have hr2 : r < 16 := by rw [hr]; exact Nat.mod_lt _ (by decide)
      have key : (andB a b).toNat % 2 ^ 5 = r + (if a.toNat / 16 % 2 = 1 ∧ b.toNat / 16 % 2 = 1 then 16 else 0) := by rw [hr]; exact and_step a b 4
      rw [← hr]
      have HK := Lib.hid key
      clear key hr
      by_cases h1 : a.toNat / 16 % 2 = 1 <;> by_cases h2 : b.toNat / 16 % 2 = 1
      · have HF := Lib.hid (show (andB a b).toNat % 2 ^ 5 = r + 16 from by rw [HK.out, if_pos ⟨h1, h2⟩])
        have d1 : ((a.toNat : Int) / 16 % 2 == 1) = true := by rw [beq_iff_eq]; omega
        have d2 : ((b.toNat : Int) / 16 % 2 == 1) = true := by rw [beq_iff_eq]; omega
        clear h1 h2
        go_wp2
        go_round
        case rel => exact ⟨5, by omega, rfl, rfl, by rw [HF.out]; go_num⟩
        case measure => simp [intOf]
      · have HF := Lib.hid (show (andB a b).toNat % 2 ^ 5 = r from by rw [HK.out, if_neg (fun h => h2 h.2)]; rfl)
        have d1 : ((a.toNat : Int) / 16 % 2 == 1) = true := by rw [beq_iff_eq]; omega
        have d2 : ((b.toNat : Int) / 16 % 2 == 1) = false := by rw [beq_eq_false_iff_ne]; omega
        clear h1 h2
        go_wp2
        go_round
        case rel => exact ⟨5, by omega, rfl, rfl, by rw [HF.out]⟩
        case measure => simp [intOf]
      all_goals
        have HF := Lib.hid (show (andB a b).toNat % 2 ^ 5 = r from by rw [HK.out, if_neg (fun h => h1 h.1)]; rfl)
        have d1 : ((a.toNat : Int) / 16 % 2 == 1) = false := by rw [beq_eq_false_iff_ne]; omega
        clear h1 h2
        go_wp2
        go_round
        case rel => exact ⟨5, by omega, rfl, rfl, by rw [HF.out]⟩
        case measure => simp [intOf]
    | 5, _ =>
      obtain ⟨r, hr⟩ : ∃ r, r = (andB a b).toNat % 2 ^ 5 := ⟨_, rfl⟩
      have hr2 : r < 32 := by rw [hr]; exact Nat.mod_lt _ (by decide)
      have key : (andB a b).toNat % 2 ^ 6 = r + (if a.toNat / 32 % 2 = 1 ∧ b.toNat / 32 % 2 = 1 then 32 else 0) := by rw [hr]; exact and_step a b 5
      rw [← hr]
      have HK := Lib.hid key
      clear key hr
      by_cases h1 : a.toNat / 32 % 2 = 1 <;> by_cases h2 : b.toNat / 32 % 2 = 1
      · have HF := Lib.hid (show (andB a b).toNat % 2 ^ 6 = r + 32 from by rw [HK.out, if_pos ⟨h1, h2⟩])
        have d1 : ((a.toNat : Int) / 32 % 2 == 1) = true := by rw [beq_iff_eq]; omega
        have d2 : ((b.toNat : Int) / 32 % 2 == 1) = true := by rw [beq_iff_eq]; omega
        clear h1 h2
        go_wp2
        go_round
        case rel => exact ⟨6, by omega, rfl, rfl, by rw [HF.out]; go_num⟩
        case measure => simp [intOf]
      · have HF := Lib.hid (show (andB a b).toNat % 2 ^ 6 = r from by rw [HK.out, if_neg (fun h => h2 h.2)]; rfl)
        have d1 : ((a.toNat : Int) / 32 % 2 == 1) = true := by rw [beq_iff_eq]; omega
        have d2 : ((b.toNat : Int) / 32 % 2 == 1) = false := by rw [beq_eq_false_iff_ne]; omega
        clear h1 h2
        go_wp2
        go_round
        case rel => exact ⟨6, by omega, rfl, rfl, by rw [HF.out]⟩
        case measure => simp [intOf]
      all_goals
        have HF := Lib.hid (show (andB a b).toNat % 2 ^ 6 = r from by rw [HK.out, if_neg (fun h => h1 h.1)]; rfl)
        have d1 : ((a.toNat : Int) / 32 % 2 == 1) = false := by rw [beq_eq_false_iff_ne]; omega
        clear h1 h2
        go_wp2
        go_round
        case rel => exact ⟨6, by omega, rfl, rfl, by rw [HF.out]⟩
        case measure => simp [intOf]
    | 6, _ =>
      obtain ⟨r, hr⟩ : ∃ r, r = (andB a b).toNat % 2 ^ 6 := ⟨_, rfl⟩
      have hr2 : r < 64 := by rw [hr]; exact Nat.mod_lt _ (by decide)
      have key : (andB a b).toNat % 2 ^ 7 = r + (if a.toNat / 64 % 2 = 1 ∧ b.toNat / 64 % 2 = 1 then 64 else 0) := by rw [hr]; exact and_step a b 6
      rw [← hr]
      have HK := Lib.hid key
      clear key hr
      by_cases h1 : a.toNat / 64 % 2 = 1 <;> by_cases h2 : b.toNat / 64 % 2 = 1
      · have HF := Lib.hid (show (andB a b).toNat % 2 ^ 7 = r + 64 from by rw [HK.out, if_pos ⟨h1, h2⟩])
        have d1 : ((a.toNat : Int) / 64 % 2 == 1) = true := by rw [beq_iff_eq]; omega
        have d2 : ((b.toNat : Int) / 64 % 2 == 1) = true := by rw [beq_iff_eq]; omega
        clear h1 h2
        go_wp2
        go_round
        case rel => exact ⟨7, by omega, rfl, rfl, by rw [HF.out]; go_num⟩
        case measure => simp [intOf]
      · have HF := Lib.hid (show (andB a b).toNat % 2 ^ 7 = r from by rw [HK.out, if_neg (fun h => h2 h.2)]; rfl)
        have d1 : ((a.toNat : Int) / 64 % 2 == 1) = true := by rw [beq_iff_eq]; omega
        have d2 : ((b.toNat : Int) / 64 % 2 == 1) = false := by rw [beq_eq_false_iff_ne]; omega
        clear h1 h2
        go_wp2
        go_round
        case rel => exact ⟨7, by omega, rfl, rfl, by rw [HF.out]⟩
        case measure => simp [intOf]
      all_goals
        have HF := Lib.hid (show (andB a b).toNat % 2 ^ 7 = r from by rw [HK.out, if_neg (fun h => h1 h.1)]; rfl)
        have d1 : ((a.toNat : Int) / 64 % 2 == 1) = false := by rw [beq_eq_false_iff_ne]; omega
        clear h1 h2
        go_wp2
        go_round
        case rel => exact ⟨7, by omega, rfl, rfl, by rw [HF.out]⟩
        case measure => simp [intOf]
    | 7, _ =>
      obtain ⟨r, hr⟩ : ∃ r, r = (andB a b).toNat % 2 ^ 7 := ⟨_, rfl⟩
      have hr2 : r < 128 := by rw [hr]; exact Nat.mod_lt _ (by decide)
      have key : (andB a b).toNat % 2 ^ 8 = r + (if a.toNat / 128 % 2 = 1 ∧ b.toNat / 128 % 2 = 1 then 128 else 0) := by rw [hr]; exact and_step a b 7
      rw [← hr]
      have HK := Lib.hid key
      clear key hr
      by_cases h1 : a.toNat / 128 % 2 = 1 <;> by_cases h2 : b.toNat / 128 % 2 = 1
      · have HF := Lib.hid (show (andB a b).toNat % 2 ^ 8 = r + 128 from by rw [HK.out, if_pos ⟨h1, h2⟩])
        have d1 : ((a.toNat : Int) / 128 % 2 == 1) = true := by rw [beq_iff_eq]; omega
        have d2 : ((b.toNat : Int) / 128 % 2 == 1) = true := by rw [beq_iff_eq]; omega
        clear h1 h2
        go_wp2
        go_round
        case rel => exact ⟨8, by omega, rfl, rfl, by rw [HF.out]; go_num⟩
        case measure => simp [intOf]
      · have HF := Lib.hid (show (andB a b).toNat % 2 ^ 8 = r from by rw [HK.out, if_neg (fun h => h2 h.2)]; rfl)
        have d1 : ((a.toNat : Int) / 128 % 2 == 1) = true := by rw [beq_iff_eq]; omega
        have d2 : ((b.toNat : Int) / 128 % 2 == 1) = false := by rw [beq_eq_false_iff_ne]; omega
        clear h1 h2
        go_wp2
        go_round
        case rel => exact ⟨8, by omega, rfl, rfl, by rw [HF.out]⟩
        case measure => simp [intOf]
      all_goals
        have HF := Lib.hid (show (andB a b).toNat % 2 ^ 8 = r from by rw [HK.out, if_neg (fun h => h1 h.1)]; rfl)
        have d1 : ((a.toNat : Int) / 128 % 2 == 1) = false := by rw [beq_eq_false_iff_ne]; omega
        clear h1 h2
        go_wp2
        go_round
        case rel => exact ⟨8, by omega, rfl, rfl, by rw [HF.out]⟩
        case measure => simp [intOf]
    | 8, _ =>
      have HA := Lib.hid (and_all a b)
      have hl := (andB a b).toNat_lt
      obtain ⟨r, hr⟩ : ∃ r, r = (andB a b).toNat % 2 ^ 8 := ⟨_, rfl⟩
      have HR := Lib.hid (show r = (andB a b).toNat from hr.trans (and_all a b))
      rw [← hr]
      have hr2 : r < 256 := by rw [HR.out]; exact hl
      clear hr hl
      go_wp2
      go_ret
      exact ⟨by rw [← HR.out]; rfl, rfl⟩

end Go.Proofs.YtkdjjlfpaciohaaGreatDoor
namespace Go.Proofs.YtkdjjlfpaciohaaGreatDoor
open Go.RowKit

/-- The table of which bytes are among some. -/
def tbl (l : List UInt8) : Array Value := ((List.range 256).map fun c => Value.bool (l.contains (UInt8.ofNat c))).toArray
theorem tbl_at (l : List UInt8) (b : UInt8) : (tbl l)[b.toNat]? = some (.bool (l.contains b)) := by
  have := b.toNat_lt
  simp only [tbl, List.getElem?_toArray]
  rw [List.getElem?_eq_getElem (by simp; omega)]
  simp
theorem tbl_set (l : List UInt8) (b : UInt8) : (tbl l).setIfInBounds b.toNat (.bool true) = tbl (l ++ [b]) := by
  apply Array.ext
  · simp [tbl]
  · intro i h1 h2
    rw [Array.getElem_setIfInBounds (by simpa using h1)]
    simp only [tbl, List.getElem_toArray, List.getElem_map, List.getElem_range]
    have hi : i < 256 := by simpa [tbl] using h2
    split
    · next h =>
      subst h
      simp
    · next h =>
      have : UInt8.ofNat i ≠ b := by
        intro e
        apply h
        rw [← e]
        simp
        omega
      simp [this]

set_option maxRecDepth 100000 in
theorem zero_tbl (w : World) : (zeroValue 123).run Tryz.prog w = .ok (.agg (tbl [])) w := by kernel_rfl

end Go.Proofs.YtkdjjlfpaciohaaGreatDoor
namespace Go.Proofs.YtkdjjlfpaciohaaGreatDoor
open Go.RowKit

theorem make_fn (fn : Fn) (first cap : Array Value) (w : World) : (Instr.makeFunc fn first cap).run Tryz.prog w = .ok (.func fn first cap) w := rfl

set_option maxHeartbeats 400000 in
theorem among1_any (tb : Nat) (t : ByteArray) (b : UInt8) (w : World) (h : Blk w tb 123 (tbl t.data.toList)) :
    Calls Tryz.prog 161 #[.int .u8 (b.toNat : Int), .pointer (some ⟨tb, 0, none⟩)] w fun e w' => e = .returned (.bool (hasB t b)) ∧ w = w' := by
  have hu : (b.toNat : Int) < 256 := by have := b.toNat_lt; omega
  have hu2 : b.toNat < 256 := by omega
  have e0 : w.cell? ⟨tb, b.toNat, none⟩ = some (.bool (hasB t b)) := (h.cell _).trans (tbl_at _ _)
  have H := Lib.hid h
  clear h
  go_enter Tryz.func161, Tryz.ntmps161
  go_wp2
  go_ret
  exact ⟨rfl, rfl⟩

set_option maxHeartbeats 1000000 in
set_option maxRecDepth 100000 in
theorem among_any (t : ByteArray) (w : World) (ht : t.size ≤ 9223372036854775807) :
    Calls Tryz.prog 144 #[.string t] w fun e w' => e = .returned (.func (.func 161) #[] #[.pointer (some ⟨w.heap.size, 0, none⟩)]) ∧ Below w.heap.size w w' ∧ Blk w' w.heap.size 123 (tbl t.data.toList) := by
  have hz := zero_tbl
  have hmf := make_fn
  go_enter Tryz.func144, Tryz.ntmps144
  go_wp2
  go_loopw [7] (fun i wr => ∃ m : Nat, m ≤ t.size ∧ i = .int .i64 m ∧ Blk wr w.heap.size 123 (tbl (t.data.toList.take m)) ∧ Below w.heap.size w wr) (fun i _ => t.size - (intOf i).toNat)
  case atStart => exact ⟨0, by omega, rfl, Blk.new _ _ _, (Below.refl _ _).alloc (Nat.le_refl _) _⟩
  case round =>
    obtain ⟨m, hm, rfl, hb, hw⟩ := hrel
    have HW := Lib.hid hw
    have HBk := Lib.hid hb
    by_cases hlt : m < t.size
    · have hu : (t[m].toNat : Int) < 256 := by have := t[m].toNat_lt; omega
      have hu2 : t[m].toNat < 256 := by omega
      have e0 : wr.cell? ⟨w.heap.size, t[m].toNat, none⟩ = some (.bool ((t.data.toList.take m).contains t[m])) := (hb.cell _).trans (tbl_at _ _)
      have z0 : wr.frozen? ⟨w.heap.size, t[m].toNat, none⟩ = false := hb.frozen _
      have HX : Hid (Blk (wr.setCell ⟨w.heap.size, t[m].toNat, none⟩ (.bool true)) w.heap.size 123 (tbl (t.data.toList.take (m + 1)))) := by
        have := hb.set_ t[m].toNat (.bool true)
        rw [tbl_set, ← take_snoc t m hlt] at this
        exact this
      clear hb hw
      go_wp2
      go_roundw
      case rel => exact ⟨m + 1, by omega, by go_num, HX.out, HW.out.setCell (by simp) _⟩
      case measure => simp [intOf]; omega
    · obtain rfl : m = t.size := by omega
      have HT : Hid (Blk wr w.heap.size 123 (tbl t.data.toList)) := by
        have := hb
        rwa [List.take_of_length_le (by simp)] at this
      clear hb hw HBk
      go_wp2
      go_ret
      exact ⟨rfl, HW.out, HT.out⟩

set_option maxHeartbeats 1000000 in
set_option maxRecDepth 100000 in
theorem mbegins_any (s b m k t : ByteArray) (w : World) (hs : s.size ≤ 9223372036854775807) (hk : k.size ≤ 9223372036854775807) :
    Calls Tryz.prog 127 #[.string s, patV b m k t] w fun e w' => e = .returned (.int .i64 (begN k s : Nat)) ∧ Below w.heap.size w w' := by
  have hb0 := (Below.refl w.heap.size w).alloc (Nat.le_refl _) (.cells #[.string b, .string m, .string k, .string t] 54)
  have HB0 := Lib.hid hb0
  clear hb0
  go_enter Tryz.func127, Tryz.ntmps127
  go_wp2_with (go_at_call 144; refine (among_any k _ hk).mono ?_; rintro e w1 ⟨rfl, hb1, ht1⟩)
  have HT := Lib.hid (show Blk w1 (w.heap.size + 1) 123 (tbl k.data.toList) from by simpa using ht1)
  have HB := Lib.hid (HB0.out.trans (hb1.mono (by simp)))
  clear ht1 hb1 HB0
  go_loop [6] (fun i => ∃ n : Nat, n ≤ s.size ∧ i = .int .i64 n ∧ ∀ j (hj : j < s.size), j < n → hasB k s[j] = true) (fun i => s.size - (intOf i).toNat)
  case atStart => exact ⟨0, by omega, rfl, fun j _ h => absurd h (by omega)⟩
  case round =>
    obtain ⟨n, hn, rfl, hno⟩ := hrel
    have HN := Lib.hid hno
    clear hno
    by_cases hlt : n < s.size
    · have HC := Lib.hid (fun W (h : Blk W (w.heap.size + 1) 123 (tbl k.data.toList)) => among1_any (w.heap.size + 1) k s[n] W h)
      cases hh : hasB k s[n]
      · have HR := Lib.hid (begN_at HN.out hlt hh)
        rw [hh] at HC
        clear hh
        go_wp2_with (go_at_call 161; refine (HC.out _ HT.out).mono ?_; rintro e w2 ⟨rfl, rfl⟩)
        go_ret
        exact ⟨by rw [HR.out]; rfl, HB.out⟩
      · have HH := Lib.hid hh
        rw [hh] at HC
        clear hh
        go_wp2_with (go_at_call 161; refine (HC.out _ HT.out).mono ?_; rintro e w2 ⟨rfl, rfl⟩)
        go_round
        case rel => exact ⟨n + 1, by omega, by go_num, fun j hj h => if e : j = n then by subst e; exact HH.out else HN.out j hj (by omega)⟩
        case measure => simp [intOf]; omega
    · obtain rfl : n = s.size := by omega
      have HR := Lib.hid (begN_all (sk := k) (s := s) fun j hj => HN.out j hj hj)
      go_wp2
      go_ret
      exact ⟨by rw [HR.out]; rfl, HB.out⟩

set_option maxHeartbeats 1000000 in
set_option maxRecDepth 100000 in
theorem refBegins_any (s b m k t : ByteArray) (w : World) (hs : s.size ≤ 9223372036854775807) (hk : k.size ≤ 9223372036854775807) :
    Calls Tryz.prog 135 #[.string s, patV b m k t] w fun e w' => e = .returned (.int .i64 (begN k s : Nat)) ∧ Below w.heap.size w w' := by
  obtain ⟨w0, hw0⟩ : ∃ w0, w0 = w.alloc (.cells #[.string b, .string m, .string k, .string t] 54) := ⟨_, rfl⟩
  have HB0 := Lib.hid (show Below w.heap.size w w0 from by rw [hw0]; exact (Below.refl w.heap.size w).alloc (Nat.le_refl _) _)
  have HP := Lib.hid (show Blk w0 w.heap.size 54 #[.string b, .string m, .string k, .string t] from by rw [hw0]; exact Blk.new _ _ _)
  go_enter Tryz.func135, Tryz.ntmps135
  go_wp2
  rw [← hw0]
  clear hw0
  go_loopw [5] (fun i wr => ∃ n : Nat, n ≤ s.size ∧ i = .int .i64 n ∧ (∀ j (hj : j < s.size), j < n → hasB k s[j] = true) ∧ ∃ d, wr = w0.drewN d) (fun i _ => s.size - (intOf i).toNat)
  case atStart => exact ⟨0, by omega, rfl, fun j _ h => absurd h (by omega), 0, rfl⟩
  case round =>
    obtain ⟨n, hn, rfl, hno, hw⟩ := hrel
    have HN := Lib.hid hno
    have HW := Lib.hid hw
    have c2 : wr.cell? ⟨w.heap.size, 2, none⟩ = some (.string k) := by obtain ⟨d, rfl⟩ := hw; exact (HP.out.drewN d).cell 2
    clear hno hw
    by_cases hlt : n < s.size
    · have HC := Lib.hid (fun W => has_any k s[n] W hk)
      cases hh : hasB k s[n]
      · have HR := Lib.hid (begN_at HN.out hlt hh)
        rw [hh] at HC
        clear hh
        go_wp2
        go_quiet ((go_at_call 99; exact Calls.quiet_of_same ((HC.out _).mono fun _ _ h => ⟨h.1, h.2.symm⟩)))
        go_wp2
        go_ret
        exact ⟨by rw [HR.out]; rfl, by obtain ⟨d, hd⟩ := HW.out; rw [hd]; exact Below.drewN' (Below.drewN' HB0.out d) _⟩
      · have HH := Lib.hid hh
        rw [hh] at HC
        clear hh
        go_wp2
        go_quiet ((go_at_call 99; exact Calls.quiet_of_same ((HC.out _).mono fun _ _ h => ⟨h.1, h.2.symm⟩)))
        go_wp2
        go_roundw
        case rel => exact ⟨n + 1, by omega, by go_num, fun j hj h => if e : j = n then by subst e; exact HH.out else HN.out j hj (by omega), by obtain ⟨d, hd⟩ := HW.out; rw [hd]; exact ⟨_, World.drewN_drewN _ _ _⟩⟩
        case measure => simp [intOf]; omega
    · obtain rfl : n = s.size := by omega
      have HR := Lib.hid (begN_all (sk := k) (s := s) fun j hj => HN.out j hj hj)
      go_wp2
      go_ret
      exact ⟨by rw [HR.out]; rfl, by obtain ⟨d, hd⟩ := HW.out; rw [hd]; exact Below.drewN' HB0.out d⟩

set_option maxHeartbeats 400000 in
theorem behind_any (s b m k t : ByteArray) (w : World) (hs : s.size ≤ 9223372036854775807) (hk : k.size ≤ 9223372036854775807) :
    Calls Tryz.prog 130 #[.string s, patV b m k t] w fun e w' => e = .returned (.string (restS s k)) ∧ Below w.heap.size w w' := by
  have hb0 := (Below.refl w.heap.size w).alloc (Nat.le_refl _) (.cells #[.string b, .string m, .string k, .string t] 54)
  have HB0 := Lib.hid hb0
  have HC := Lib.hid (fun W => mbegins_any s b m k t W hs hk)
  obtain ⟨n, hn⟩ : ∃ n, n = begN k s := ⟨_, rfl⟩
  have hns : n ≤ s.size := by rw [hn]; exact begN_le _ _
  have HR := Lib.hid (show restS s k = s.extract n s.size from by rw [hn]; rfl)
  rw [← hn] at HC
  clear hb0 hn
  go_enter Tryz.func130, Tryz.ntmps130
  go_wp2_with (go_at_call 127; refine (HC.out _).mono ?_; rintro e w1 ⟨rfl, hb1⟩; have HB1 := Lib.hid hb1; clear hb1)
  go_ret
  exact ⟨by rw [HR.out]; rfl, HB0.out.trans (HB1.out.mono (by simp))⟩

end Go.Proofs.YtkdjjlfpaciohaaGreatDoor

/-
  What Good and Ends of package mask answer, and the document's own Good and and. Condition: texts are as long as a length can be.
-/
import Derived.Test.YtcoblepgehjamaaMsk
import Derived.Test.YtcoblepgehjamaaMv
import Derived.Test.YtcoblepgehjamaaByte
import Derived.Test.YtcoblepgehjamaaHas
import Derived.BigQuiet
import Derived.Deep.QuietTactic
import Derived.OwnWalk
import Derived.LoopTactic
import Derived.Laws.BitsAllLaws
import Derived.Test.YtcoblepgehjamaaRows
import Derived.WalkKit
import Derived.WalkSpells
import Derived.WalkLawsBesides
import Derived.Laws.Externs
namespace Go.Proofs.Ytcoblepgehjamaa
open Go.RowKit

/-- A pattern. -/
abbrev patV (b m k t : ByteArray) : Value := .agg #[.string b, .string m, .string k, .string t]

theorem none_size {b : ByteArray} : b.toList = [] ↔ b.size = 0 := by
  rw [← toList_size, List.length_eq_zero_iff]
theorem good_way (b m : ByteArray) : goodP b m = (!b.toList.isEmpty && (decide ((b.size : Int) ≤ 64) && ((m.size : Int) == (b.size : Int)))) := by
  unfold goodP
  rw [Bool.eq_iff_iff]
  simp only [Bool.and_eq_true, decide_eq_true_eq, Bool.not_eq_true', beq_iff_eq, List.isEmpty_eq_false_iff, ne_eq, none_size]
  omega
theorem good_way2 (b m : ByteArray) : goodP b m = (decide (0 < (b.size : Int)) && (decide ((b.size : Int) < 65) && ((b.size : Int) == (m.size : Int)))) := by
  unfold goodP
  rw [Bool.eq_iff_iff]
  simp only [Bool.and_eq_true, decide_eq_true_eq, beq_iff_eq]
  omega

set_option maxHeartbeats 400000 in
theorem good_any (b m k t : ByteArray) (w : World) (hb : b.size ≤ 9223372036854775807) (hm : m.size ≤ 9223372036854775807) :
    Calls Try.prog 46 #[patV b m k t] w fun e w' => e = .returned (.bool (goodP b m)) ∧ Below w.heap.size w w' := by
  have H := Lib.hid (good_way b m)
  go_enter Try.func46, Try.ntmps46
  go_wp2
  all_goals
    go_ret
    refine ⟨?_, (Below.refl _ _).alloc (Nat.le_refl _) _⟩
    rw [H.out]
    simp [*]
    try omega

set_option maxHeartbeats 400000 in
theorem refGood_any (b m k t : ByteArray) (w : World) (hb : b.size ≤ 9223372036854775807) (hm : m.size ≤ 9223372036854775807) :
    Calls Try.prog 33 #[patV b m k t] w fun e w' => e = .returned (.bool (goodP b m)) ∧ Below w.heap.size w w' := by
  have H := Lib.hid (good_way2 b m)
  go_enter Try.func33, Try.ntmps33
  go_wp2
  all_goals
    go_ret
    refine ⟨?_, (Below.refl _ _).alloc (Nat.le_refl _) _⟩
    rw [H.out]
    simp [*]
    try omega

/-- The bits that two bytes have both. -/
def andB (a b : UInt8) : UInt8 := a &&& b

set_option maxHeartbeats 1600000 in
theorem and_any (a b : UInt8) (w : World) :
    Calls Try.prog 45 #[.int .u8 (a.toNat : Int), .int .u8 (b.toNat : Int)] w fun e w' => e = .returned (.int .u8 ((andB a b).toNat : Int)) ∧ w = w' := by
  have ha := a.toNat_lt
  have hb := b.toNat_lt
  go_enter Try.func45, Try.ntmps45
  go_wp2
  go_loop [5, 6, 7] (fun o t i => ∃ k : Nat, k ≤ 8 ∧ i = .int .i64 k ∧ t = .int .i64 (2 ^ k : Nat) ∧ o = .int .i64 ((andB a b).toNat % 2 ^ k : Nat)) (fun _ _ i => 8 - (intOf i).toNat)
  case atStart => exact ⟨0, by omega, rfl, rfl, by simp⟩
  case round =>
    obtain ⟨k, hk, rfl, rfl, rfl⟩ := hrel
    match k, hk with
    | 0, _ =>
      obtain ⟨r, hr⟩ : ∃ r, r = (andB a b).toNat % 2 ^ 0 := ⟨_, rfl⟩
      have hr2 : r < 1 := by rw [hr]; exact Nat.mod_lt _ (by decide)
      have key : (andB a b).toNat % 2 ^ 1 = r + (if a.toNat / 1 % 2 = 1 ∧ b.toNat / 1 % 2 = 1 then 1 else 0) := by rw [hr]; exact and_step a b 0
      rw [← hr]
      have HK := Lib.hid key
      clear key hr
      by_cases h1 : a.toNat / 1 % 2 = 1 <;> by_cases h2 : b.toNat / 1 % 2 = 1
      · have HF := Lib.hid (show (andB a b).toNat % 2 ^ 1 = r + 1 from by rw [HK.out, if_pos ⟨h1, h2⟩])
        have d1 : ((a.toNat : Int)  % 2 == 1) = true := by rw [beq_iff_eq]; omega
        have d2 : ((b.toNat : Int)  % 2 == 1) = true := by rw [beq_iff_eq]; omega
        clear h1 h2
        go_wp2
        go_round
        case rel => exact ⟨1, by omega, rfl, rfl, by rw [HF.out]; go_num⟩
        case measure => simp [intOf]
      · have HF := Lib.hid (show (andB a b).toNat % 2 ^ 1 = r from by rw [HK.out, if_neg (fun h => h2 h.2)]; rfl)
        have d1 : ((a.toNat : Int)  % 2 == 1) = true := by rw [beq_iff_eq]; omega
        have d2 : ((b.toNat : Int)  % 2 == 1) = false := by rw [beq_eq_false_iff_ne]; omega
        clear h1 h2
        go_wp2
        go_round
        case rel => exact ⟨1, by omega, rfl, rfl, by rw [HF.out]⟩
        case measure => simp [intOf]
      all_goals
        have HF := Lib.hid (show (andB a b).toNat % 2 ^ 1 = r from by rw [HK.out, if_neg (fun h => h1 h.1)]; rfl)
        have d1 : ((a.toNat : Int)  % 2 == 1) = false := by rw [beq_eq_false_iff_ne]; omega
        clear h1 h2
        go_wp2
        go_round
        case rel => exact ⟨1, by omega, rfl, rfl, by rw [HF.out]⟩
        case measure => simp [intOf]
    | 1, _ =>
      obtain ⟨r, hr⟩ : ∃ r, r = (andB a b).toNat % 2 ^ 1 := ⟨_, rfl⟩
      have hr2 : r < 2 := by rw [hr]; exact Nat.mod_lt _ (by decide)
      have key : (andB a b).toNat % 2 ^ 2 = r + (if a.toNat / 2 % 2 = 1 ∧ b.toNat / 2 % 2 = 1 then 2 else 0) := by rw [hr]; exact and_step a b 1
      rw [← hr]
      have HK := Lib.hid key
      clear key hr
      by_cases h1 : a.toNat / 2 % 2 = 1 <;> by_cases h2 : b.toNat / 2 % 2 = 1
      · have HF := Lib.hid (show (andB a b).toNat % 2 ^ 2 = r + 2 from by rw [HK.out, if_pos ⟨h1, h2⟩])
        have d1 : ((a.toNat : Int) / 2 % 2 == 1) = true := by rw [beq_iff_eq]; omega
        have d2 : ((b.toNat : Int) / 2 % 2 == 1) = true := by rw [beq_iff_eq]; omega
        clear h1 h2
        go_wp2
        go_round
        case rel => exact ⟨2, by omega, rfl, rfl, by rw [HF.out]; go_num⟩
        case measure => simp [intOf]
      · have HF := Lib.hid (show (andB a b).toNat % 2 ^ 2 = r from by rw [HK.out, if_neg (fun h => h2 h.2)]; rfl)
        have d1 : ((a.toNat : Int) / 2 % 2 == 1) = true := by rw [beq_iff_eq]; omega
        have d2 : ((b.toNat : Int) / 2 % 2 == 1) = false := by rw [beq_eq_false_iff_ne]; omega
        clear h1 h2
        go_wp2
        go_round
        case rel => exact ⟨2, by omega, rfl, rfl, by rw [HF.out]⟩
        case measure => simp [intOf]
      all_goals
        have HF := Lib.hid (show (andB a b).toNat % 2 ^ 2 = r from by rw [HK.out, if_neg (fun h => h1 h.1)]; rfl)
        have d1 : ((a.toNat : Int) / 2 % 2 == 1) = false := by rw [beq_eq_false_iff_ne]; omega
        clear h1 h2
        go_wp2
        go_round
        case rel => exact ⟨2, by omega, rfl, rfl, by rw [HF.out]⟩
        case measure => simp [intOf]
    | 2, _ =>
      obtain ⟨r, hr⟩ : ∃ r, r = (andB a b).toNat % 2 ^ 2 := ⟨_, rfl⟩
      have hr2 : r < 4 := by rw [hr]; exact Nat.mod_lt _ (by decide)
      have key : (andB a b).toNat % 2 ^ 3 = r + (if a.toNat / 4 % 2 = 1 ∧ b.toNat / 4 % 2 = 1 then 4 else 0) := by rw [hr]; exact and_step a b 2
      rw [← hr]
      have HK := Lib.hid key
      clear key hr
      by_cases h1 : a.toNat / 4 % 2 = 1 <;> by_cases h2 : b.toNat / 4 % 2 = 1
      · have HF := Lib.hid (show (andB a b).toNat % 2 ^ 3 = r + 4 from by rw [HK.out, if_pos ⟨h1, h2⟩])
        have d1 : ((a.toNat : Int) / 4 % 2 == 1) = true := by rw [beq_iff_eq]; omega
        have d2 : ((b.toNat : Int) / 4 % 2 == 1) = true := by rw [beq_iff_eq]; omega
        clear h1 h2
        go_wp2
        go_round
        case rel => exact ⟨3, by omega, rfl, rfl, by rw [HF.out]; go_num⟩
        case measure => simp [intOf]
      · have HF := Lib.hid (show (andB a b).toNat % 2 ^ 3 = r from by rw [HK.out, if_neg (fun h => h2 h.2)]; rfl)
        have d1 : ((a.toNat : Int) / 4 % 2 == 1) = true := by rw [beq_iff_eq]; omega
        have d2 : ((b.toNat : Int) / 4 % 2 == 1) = false := by rw [beq_eq_false_iff_ne]; omega
        clear h1 h2
        go_wp2
        go_round
        case rel => exact ⟨3, by omega, rfl, rfl, by rw [HF.out]⟩
        case measure => simp [intOf]
      all_goals
        have HF := Lib.hid (show (andB a b).toNat % 2 ^ 3 = r from by rw [HK.out, if_neg (fun h => h1 h.1)]; rfl)
        have d1 : ((a.toNat : Int) / 4 % 2 == 1) = false := by rw [beq_eq_false_iff_ne]; omega
        clear h1 h2
        go_wp2
        go_round
        case rel => exact ⟨3, by omega, rfl, rfl, by rw [HF.out]⟩
        case measure => simp [intOf]
    | 3, _ =>
      obtain ⟨r, hr⟩ : ∃ r, r = (andB a b).toNat % 2 ^ 3 := ⟨_, rfl⟩
      have hr2 : r < 8 := by rw [hr]; exact Nat.mod_lt _ (by decide)
      have key : (andB a b).toNat % 2 ^ 4 = r + (if a.toNat / 8 % 2 = 1 ∧ b.toNat / 8 % 2 = 1 then 8 else 0) := by rw [hr]; exact and_step a b 3
      rw [← hr]
      have HK := Lib.hid key
      clear key hr
      by_cases h1 : a.toNat / 8 % 2 = 1 <;> by_cases h2 : b.toNat / 8 % 2 = 1
      · have HF := Lib.hid (show (andB a b).toNat % 2 ^ 4 = r + 8 from by rw [HK.out, if_pos ⟨h1, h2⟩])
        have d1 : ((a.toNat : Int) / 8 % 2 == 1) = true := by rw [beq_iff_eq]; omega
        have d2 : ((b.toNat : Int) / 8 % 2 == 1) = true := by rw [beq_iff_eq]; omega
        clear h1 h2
        go_wp2
        go_round
        case rel => exact ⟨4, by omega, rfl, rfl, by rw [HF.out]; go_num⟩
        case measure => simp [intOf]
      · have HF := Lib.hid (show (andB a b).toNat % 2 ^ 4 = r from by rw [HK.out, if_neg (fun h => h2 h.2)]; rfl)
        have d1 : ((a.toNat : Int) / 8 % 2 == 1) = true := by rw [beq_iff_eq]; omega
        have d2 : ((b.toNat : Int) / 8 % 2 == 1) = false := by rw [beq_eq_false_iff_ne]; omega
        clear h1 h2
        go_wp2
        go_round
        case rel => exact ⟨4, by omega, rfl, rfl, by rw [HF.out]⟩
        case measure => simp [intOf]
      all_goals
        have HF := Lib.hid (show (andB a b).toNat % 2 ^ 4 = r from by rw [HK.out, if_neg (fun h => h1 h.1)]; rfl)
        have d1 : ((a.toNat : Int) / 8 % 2 == 1) = false := by rw [beq_eq_false_iff_ne]; omega
        clear h1 h2
        go_wp2
        go_round
        case rel => exact ⟨4, by omega, rfl, rfl, by rw [HF.out]⟩
        case measure => simp [intOf]
    | 4, _ =>
      obtain ⟨r, hr⟩ : ∃ r, r = (andB a b).toNat % 2 ^ 4 := ⟨_, rfl⟩
      have hr2 : r < 16 := by rw [hr]; exact Nat.mod_lt _ (by decide)
      have key : (andB a b).toNat % 2 ^ 5 = r + (if a.toNat / 16 % 2 = 1 ∧ b.toNat / 16 % 2 = 1 then 16 else 0) := by rw [hr]; exact and_step a b 4
      rw [← hr]
      have HK := Lib.hid key
      clear key hr
      by_cases h1 : a.toNat / 16 % 2 = 1 <;> by_cases h2 : b.toNat / 16 % 2 = 1
      · have HF := Lib.hid (show (andB a b).toNat % 2 ^ 5 = r + 16 from by rw [HK.out, if_pos ⟨h1, h2⟩])
        have d1 : ((a.toNat : Int) / 16 % 2 == 1) = true := by rw [beq_iff_eq]; omega
        have d2 : ((b.toNat : Int) / 16 % 2 == 1) = true := by rw [beq_iff_eq]; omega
        clear h1 h2
        go_wp2
        go_round
        case rel => exact ⟨5, by omega, rfl, rfl, by rw [HF.out]; go_num⟩
        case measure => simp [intOf]
      · have HF := Lib.hid (show (andB a b).toNat % 2 ^ 5 = r from by rw [HK.out, if_neg (fun h => h2 h.2)]; rfl)
        have d1 : ((a.toNat : Int) / 16 % 2 == 1) = true := by rw [beq_iff_eq]; omega
        have d2 : ((b.toNat : Int) / 16 % 2 == 1) = false := by rw [beq_eq_false_iff_ne]; omega
        clear h1 h2
        go_wp2
        go_round
        case rel => exact ⟨5, by omega, rfl, rfl, by rw [HF.out]⟩
        case measure => simp [intOf]
      all_goals
        have HF := Lib.hid (show (andB a b).toNat % 2 ^ 5 = r from by rw [HK.out, if_neg (fun h => h1 h.1)]; rfl)
        have d1 : ((a.toNat : Int) / 16 % 2 == 1) = false := by rw [beq_eq_false_iff_ne]; omega
        clear h1 h2
        go_wp2
        go_round
        case rel => exact ⟨5, by omega, rfl, rfl, by rw [HF.out]⟩
        case measure => simp [intOf]
    | 5, _ =>
      obtain ⟨r, hr⟩ : ∃ r, r = (andB a b).toNat % 2 ^ 5 := ⟨_, rfl⟩
      have hr2 : r < 32 := by rw [hr]; exact Nat.mod_lt _ (by decide)
      have key : (andB a b).toNat % 2 ^ 6 = r + (if a.toNat / 32 % 2 = 1 ∧ b.toNat / 32 % 2 = 1 then 32 else 0) := by rw [hr]; exact and_step a b 5
      rw [← hr]
      have HK := Lib.hid key
      clear key hr
      by_cases h1 : a.toNat / 32 % 2 = 1 <;> by_cases h2 : b.toNat / 32 % 2 = 1
      · have HF := Lib.hid (show (andB a b).toNat % 2 ^ 6 = r + 32 from by rw [HK.out, if_pos ⟨h1, h2⟩])
        have d1 : ((a.toNat : Int) / 32 % 2 == 1) = true := by rw [beq_iff_eq]; omega
        have d2 : ((b.toNat : Int) / 32 % 2 == 1) = true := by rw [beq_iff_eq]; omega
        clear h1 h2
        go_wp2
        go_round
        case rel => exact ⟨6, by omega, rfl, rfl, by rw [HF.out]; go_num⟩
        case measure => simp [intOf]
      · have HF := Lib.hid (show (andB a b).toNat % 2 ^ 6 = r from by rw [HK.out, if_neg (fun h => h2 h.2)]; rfl)
        have d1 : ((a.toNat : Int) / 32 % 2 == 1) = true := by rw [beq_iff_eq]; omega
        have d2 : ((b.toNat : Int) / 32 % 2 == 1) = false := by rw [beq_eq_false_iff_ne]; omega
        clear h1 h2
        go_wp2
        go_round
        case rel => exact ⟨6, by omega, rfl, rfl, by rw [HF.out]⟩
        case measure => simp [intOf]
      all_goals
        have HF := Lib.hid (show (andB a b).toNat % 2 ^ 6 = r from by rw [HK.out, if_neg (fun h => h1 h.1)]; rfl)
        have d1 : ((a.toNat : Int) / 32 % 2 == 1) = false := by rw [beq_eq_false_iff_ne]; omega
        clear h1 h2
        go_wp2
        go_round
        case rel => exact ⟨6, by omega, rfl, rfl, by rw [HF.out]⟩
        case measure => simp [intOf]
    | 6, _ =>
      obtain ⟨r, hr⟩ : ∃ r, r = (andB a b).toNat % 2 ^ 6 := ⟨_, rfl⟩
      have hr2 : r < 64 := by rw [hr]; exact Nat.mod_lt _ (by decide)
      have key : (andB a b).toNat % 2 ^ 7 = r + (if a.toNat / 64 % 2 = 1 ∧ b.toNat / 64 % 2 = 1 then 64 else 0) := by rw [hr]; exact and_step a b 6
      rw [← hr]
      have HK := Lib.hid key
      clear key hr
      by_cases h1 : a.toNat / 64 % 2 = 1 <;> by_cases h2 : b.toNat / 64 % 2 = 1
      · have HF := Lib.hid (show (andB a b).toNat % 2 ^ 7 = r + 64 from by rw [HK.out, if_pos ⟨h1, h2⟩])
        have d1 : ((a.toNat : Int) / 64 % 2 == 1) = true := by rw [beq_iff_eq]; omega
        have d2 : ((b.toNat : Int) / 64 % 2 == 1) = true := by rw [beq_iff_eq]; omega
        clear h1 h2
        go_wp2
        go_round
        case rel => exact ⟨7, by omega, rfl, rfl, by rw [HF.out]; go_num⟩
        case measure => simp [intOf]
      · have HF := Lib.hid (show (andB a b).toNat % 2 ^ 7 = r from by rw [HK.out, if_neg (fun h => h2 h.2)]; rfl)
        have d1 : ((a.toNat : Int) / 64 % 2 == 1) = true := by rw [beq_iff_eq]; omega
        have d2 : ((b.toNat : Int) / 64 % 2 == 1) = false := by rw [beq_eq_false_iff_ne]; omega
        clear h1 h2
        go_wp2
        go_round
        case rel => exact ⟨7, by omega, rfl, rfl, by rw [HF.out]⟩
        case measure => simp [intOf]
      all_goals
        have HF := Lib.hid (show (andB a b).toNat % 2 ^ 7 = r from by rw [HK.out, if_neg (fun h => h1 h.1)]; rfl)
        have d1 : ((a.toNat : Int) / 64 % 2 == 1) = false := by rw [beq_eq_false_iff_ne]; omega
        clear h1 h2
        go_wp2
        go_round
        case rel => exact ⟨7, by omega, rfl, rfl, by rw [HF.out]⟩
        case measure => simp [intOf]
    | 7, _ =>
      obtain ⟨r, hr⟩ : ∃ r, r = (andB a b).toNat % 2 ^ 7 := ⟨_, rfl⟩
      have hr2 : r < 128 := by rw [hr]; exact Nat.mod_lt _ (by decide)
      have key : (andB a b).toNat % 2 ^ 8 = r + (if a.toNat / 128 % 2 = 1 ∧ b.toNat / 128 % 2 = 1 then 128 else 0) := by rw [hr]; exact and_step a b 7
      rw [← hr]
      have HK := Lib.hid key
      clear key hr
      by_cases h1 : a.toNat / 128 % 2 = 1 <;> by_cases h2 : b.toNat / 128 % 2 = 1
      · have HF := Lib.hid (show (andB a b).toNat % 2 ^ 8 = r + 128 from by rw [HK.out, if_pos ⟨h1, h2⟩])
        have d1 : ((a.toNat : Int) / 128 % 2 == 1) = true := by rw [beq_iff_eq]; omega
        have d2 : ((b.toNat : Int) / 128 % 2 == 1) = true := by rw [beq_iff_eq]; omega
        clear h1 h2
        go_wp2
        go_round
        case rel => exact ⟨8, by omega, rfl, rfl, by rw [HF.out]; go_num⟩
        case measure => simp [intOf]
      · have HF := Lib.hid (show (andB a b).toNat % 2 ^ 8 = r from by rw [HK.out, if_neg (fun h => h2 h.2)]; rfl)
        have d1 : ((a.toNat : Int) / 128 % 2 == 1) = true := by rw [beq_iff_eq]; omega
        have d2 : ((b.toNat : Int) / 128 % 2 == 1) = false := by rw [beq_eq_false_iff_ne]; omega
        clear h1 h2
        go_wp2
        go_round
        case rel => exact ⟨8, by omega, rfl, rfl, by rw [HF.out]⟩
        case measure => simp [intOf]
      all_goals
        have HF := Lib.hid (show (andB a b).toNat % 2 ^ 8 = r from by rw [HK.out, if_neg (fun h => h1 h.1)]; rfl)
        have d1 : ((a.toNat : Int) / 128 % 2 == 1) = false := by rw [beq_eq_false_iff_ne]; omega
        clear h1 h2
        go_wp2
        go_round
        case rel => exact ⟨8, by omega, rfl, rfl, by rw [HF.out]⟩
        case measure => simp [intOf]
    | 8, _ =>
      have HA := Lib.hid (and_all a b)
      have hl := (andB a b).toNat_lt
      obtain ⟨r, hr⟩ : ∃ r, r = (andB a b).toNat % 2 ^ 8 := ⟨_, rfl⟩
      have HR := Lib.hid (show r = (andB a b).toNat from hr.trans (and_all a b))
      rw [← hr]
      have hr2 : r < 256 := by rw [HR.out]; exact hl
      clear hr hl
      go_wp2
      go_ret
      exact ⟨by rw [← HR.out]; rfl, rfl⟩

end Go.Proofs.Ytcoblepgehjamaa


/-
  The law ClassCounts returns true of every text. Condition: the text is as long as a length can be.
-/
import Derived.Test.YthaighaikddniaaClass3
import Derived.Test.YthaighaikddniaaCountD
import Derived.Test.YthaighaikddniaaCut
namespace Go.Proofs.Ythaighaikddniaa
open Go.RowKit

set_option maxHeartbeats 2000000 in
theorem classCounts_walk (s u : ByteArray) (w : World) (hu : u.size ≤ 100)
    (HC : Hid (∀ W, Calls Try.prog 21 #[.string s, .int .i64 100] W fun e w' => e = .returned (.string u) ∧ W = w'))
    (HCT : Hid (∀ W, Below w.heap.size w W → Calls Try.prog 30 #[.string u, .func (.func 8) #[] #[]] W fun e w' => e = .returned (.int .i64 (cntT tokB u u.size : Nat)) ∧ Below w.heap.size w w'))
    (HAT : Hid (∀ W, Below w.heap.size w W → Calls Try.prog 31 #[.string u, .func (.func 8) #[] #[]] W fun e w' => e = .returned (.bool ((cntT tokB u u.size : Int) == (u.size : Int))) ∧ Below w.heap.size w w'))
    (HCD : Hid (∀ W, Below w.heap.size w W → Calls Try.prog 30 #[.string u, .func (.func 16) #[] #[]] W fun e w' => e = .returned (.int .i64 (cntT digB u u.size : Nat)) ∧ Below w.heap.size w w'))
    (HAD : Hid (∀ W, Below w.heap.size w W → Calls Try.prog 31 #[.string u, .func (.func 16) #[] #[]] W fun e w' => e = .returned (.bool ((cntT digB u u.size : Int) == (u.size : Int))) ∧ Below w.heap.size w w'))
    (HCN : Hid (∀ W, Below w.heap.size w W → Calls Try.prog 30 #[.string u, .nilFunc] W fun e w' => e = .returned (.int .i64 0) ∧ Below w.heap.size w w'))
    (HAN : Hid (∀ W, Below w.heap.size w W → Calls Try.prog 31 #[.string u, .nilFunc] W fun e w' => e = .returned (.bool u.toList.isEmpty) ∧ Below w.heap.size w w'))
    (HLV : Hid (∀ W, Below w.heap.size w W → Calls Try.prog 20 #[] W fun e w' => e = .returned (.bool true) ∧ Below w.heap.size w w')) :
    Calls Try.prog 5 #[.string s] w fun e w' => e = .returned (.bool true) ∧ Below w.heap.size w w' := by
  have hb0 := Below.refl w.heap.size w
  go_enter Try.func5, Try.ntmps5
  go_wp2_with (go_at_call 21; refine (HC.out _).mono ?_; rintro e w1 ⟨rfl, rfl⟩)
  go_loop [5, 3, 4] (fun i n m => ∃ k : Nat, k ≤ u.size ∧ i = .int .i64 k ∧ n = .int .i64 (cntT tokB u k : Nat) ∧ m = .int .i64 (cntT digB u k : Nat) ∧ Below w.heap.size w w) (fun i _ _ => u.size - (intOf i).toNat)
  case atStart => exact ⟨0, Nat.zero_le _, rfl, by rw [cntT_zero]; rfl, by rw [cntT_zero]; rfl, hb0⟩
  case round =>
    obtain ⟨k, hk, rfl, rfl, rfl, _⟩ := hrel
    have b1 := cntT_le tokB u k
    have b2 := cntT_le digB u k
    by_cases hlt : k < u.size
    · have HT := Lib.hid (fun W => refToken_any u[k] W)
      have HD := Lib.hid (fun W => refDigit_any u[k] W)
      cases h1 : tokB u[k] <;> cases h2 : digB u[k]
      · have E1 := Lib.hid (cntT_no hlt h1)
        have E2 := Lib.hid (cntT_no hlt h2)
        have HT2 : Hid (∀ W, Calls Try.prog 9 #[.int .u8 (u[k].toNat : Int)] W fun e w' => e = .returned (.bool false) ∧ W = w') := fun W => by have := HT.out W; rwa [h1] at this
        have HD2 : Hid (∀ W, Calls Try.prog 17 #[.int .u8 (u[k].toNat : Int)] W fun e w' => e = .returned (.bool false) ∧ W = w') := fun W => by have := HD.out W; rwa [h2] at this
        clear HT HD h1 h2
        go_wp2_with (first
          | (go_at_call 9; refine (HT2.out _).mono ?_; rintro e w1 ⟨rfl, rfl⟩)
          | (go_at_call 17; refine (HD2.out _).mono ?_; rintro e w1 ⟨rfl, rfl⟩))
        go_roundw
        case rel => exact ⟨k + 1, by omega, by go_num, by rw [E1.out] <;> go_num, by rw [E2.out] <;> go_num, hb0⟩
        case measure => simp [intOf]; omega
      · have E1 := Lib.hid (cntT_no hlt h1)
        have E2 := Lib.hid (cntT_yes hlt h2)
        have HT2 : Hid (∀ W, Calls Try.prog 9 #[.int .u8 (u[k].toNat : Int)] W fun e w' => e = .returned (.bool false) ∧ W = w') := fun W => by have := HT.out W; rwa [h1] at this
        have HD2 : Hid (∀ W, Calls Try.prog 17 #[.int .u8 (u[k].toNat : Int)] W fun e w' => e = .returned (.bool true) ∧ W = w') := fun W => by have := HD.out W; rwa [h2] at this
        clear HT HD h1 h2
        go_wp2_with (first
          | (go_at_call 9; refine (HT2.out _).mono ?_; rintro e w1 ⟨rfl, rfl⟩)
          | (go_at_call 17; refine (HD2.out _).mono ?_; rintro e w1 ⟨rfl, rfl⟩))
        go_roundw
        case rel => exact ⟨k + 1, by omega, by go_num, by rw [E1.out] <;> go_num, by rw [E2.out] <;> go_num, hb0⟩
        case measure => simp [intOf]; omega
      · have E1 := Lib.hid (cntT_yes hlt h1)
        have E2 := Lib.hid (cntT_no hlt h2)
        have HT2 : Hid (∀ W, Calls Try.prog 9 #[.int .u8 (u[k].toNat : Int)] W fun e w' => e = .returned (.bool true) ∧ W = w') := fun W => by have := HT.out W; rwa [h1] at this
        have HD2 : Hid (∀ W, Calls Try.prog 17 #[.int .u8 (u[k].toNat : Int)] W fun e w' => e = .returned (.bool false) ∧ W = w') := fun W => by have := HD.out W; rwa [h2] at this
        clear HT HD h1 h2
        go_wp2_with (first
          | (go_at_call 9; refine (HT2.out _).mono ?_; rintro e w1 ⟨rfl, rfl⟩)
          | (go_at_call 17; refine (HD2.out _).mono ?_; rintro e w1 ⟨rfl, rfl⟩))
        go_roundw
        case rel => exact ⟨k + 1, by omega, by go_num, by rw [E1.out] <;> go_num, by rw [E2.out] <;> go_num, hb0⟩
        case measure => simp [intOf]; omega
      · have E1 := Lib.hid (cntT_yes hlt h1)
        have E2 := Lib.hid (cntT_yes hlt h2)
        have HT2 : Hid (∀ W, Calls Try.prog 9 #[.int .u8 (u[k].toNat : Int)] W fun e w' => e = .returned (.bool true) ∧ W = w') := fun W => by have := HT.out W; rwa [h1] at this
        have HD2 : Hid (∀ W, Calls Try.prog 17 #[.int .u8 (u[k].toNat : Int)] W fun e w' => e = .returned (.bool true) ∧ W = w') := fun W => by have := HD.out W; rwa [h2] at this
        clear HT HD h1 h2
        go_wp2_with (first
          | (go_at_call 9; refine (HT2.out _).mono ?_; rintro e w1 ⟨rfl, rfl⟩)
          | (go_at_call 17; refine (HD2.out _).mono ?_; rintro e w1 ⟨rfl, rfl⟩))
        go_roundw
        case rel => exact ⟨k + 1, by omega, by go_num, by rw [E1.out] <;> go_num, by rw [E2.out] <;> go_num, hb0⟩
        case measure => simp [intOf]; omega
    · obtain rfl : k = u.size := by omega
      go_wp2_with (first
        | (go_at_call 30; with_reducible refine (HCT.out _ (by assumption)).mono ?_; rintro e w1 ⟨rfl, hb1⟩)
        | (go_at_call 31; with_reducible refine (HAT.out _ (by assumption)).mono ?_; rintro e w1 ⟨rfl, hb1⟩)
        | (go_at_call 30; with_reducible refine (HCD.out _ (by assumption)).mono ?_; rintro e w1 ⟨rfl, hb1⟩)
        | (go_at_call 31; with_reducible refine (HAD.out _ (by assumption)).mono ?_; rintro e w1 ⟨rfl, hb1⟩)
        | (go_at_call 30; with_reducible refine (HCN.out _ (by assumption)).mono ?_; rintro e w1 ⟨rfl, hb1⟩)
        | (go_at_call 31; with_reducible refine (HAN.out _ (by assumption)).mono ?_; rintro e w1 ⟨rfl, hb1⟩)
        | (go_at_call 20; with_reducible refine (HLV.out _ (by assumption)).mono ?_; rintro e w1 ⟨rfl, hb1⟩))
      go_ret
      exact ⟨rfl, by assumption⟩

theorem classCounts_any (s : ByteArray) (w : World) (hs : s.size ≤ 9223372036854775807) :
    Calls Try.prog 5 #[.string s] w fun e w' => e = .returned (.bool true) ∧ Below w.heap.size w w' := by
  have hu := cutB_size s 100
  exact classCounts_walk s (cutB s 100) w hu (fun W => cut_any s 100 W hs)
    (fun W hW => (count_Tok (cutB s 100) W (by omega)).mono fun _ _ h => ⟨h.1, hW.trans (h.2.mono hW.size)⟩)
    (fun W hW => (all_Tok (cutB s 100) W (by omega)).mono fun _ _ h => ⟨h.1, hW.trans (h.2.mono hW.size)⟩)
    (fun W hW => (count_Dig (cutB s 100) W (by omega)).mono fun _ _ h => ⟨h.1, hW.trans (h.2.mono hW.size)⟩)
    (fun W hW => (all_Dig (cutB s 100) W (by omega)).mono fun _ _ h => ⟨h.1, hW.trans (h.2.mono hW.size)⟩)
    (fun W hW => (count_none (cutB s 100) W).mono fun _ _ h => ⟨h.1, hW.trans (h.2.mono hW.size)⟩)
    (fun W hW => (all_none (cutB s 100) W).mono fun _ _ h => ⟨h.1, hW.trans (h.2.mono hW.size)⟩)
    (fun W hW => (lives_any W).mono fun _ _ h => ⟨h.1, hW.trans (h.2.mono hW.size)⟩)

end Go.Proofs.Ythaighaikddniaa

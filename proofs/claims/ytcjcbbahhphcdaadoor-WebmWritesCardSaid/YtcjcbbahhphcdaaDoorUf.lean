/-
  What Number and Is of the document's own answers of layer 17 answer. Condition: the text is not longer than memory.
-/
import Derived.Test.YtcjcbbahhphcdaaDoorUe
namespace Go.Proofs.YtcjcbbahhphcdaaDoor
open Go.RowKit

theorem high_56 (s : ByteArray) {k : Nat} (h : k < 8) : highV s k < 72057594037927936 := Nat.lt_of_lt_of_le (highV_lt s k) (Nat.le_trans (Nat.pow_le_pow_right (by decide) (by omega : k ≤ 7)) (by decide))

set_option maxHeartbeats 1000000 in
theorem rnumber_none (s : ByteArray) (w : World) (h : numO s = false) (hs : s.size ≤ 9223372036854775807) :
    Calls Tryd.prog 14 #[.string s] w fun e w' => e = .returned (.tuple #[.int .u64 0, .int .i64 0]) ∧ w = w' := by
  by_cases h0 : 0 < s.size
  · obtain ⟨b, hb, eb⟩ : ∃ b : UInt8, s[0]'h0 = b ∧ Hid (s[0]! = b) := ⟨_, rfl, getElem!_pos s 0 h0⟩
    have hne : ((s.size : Int) == 0) = false := by rw [beq_eq_false_iff_ne]; omega
    by_cases hz : b = 0
    · subst hz
      go_enter Tryd.func14, Tryd.ntmps14
      go_wp2
      exact bodyPost_ret (v := .tuple #[.int .u64 0, .int .i64 0]) (by simp [results, Tryd.results14, go_sem]) rfl ⟨rfl, rfl⟩
    · have hw : s.size < widB b := by
        rcases Nat.lt_or_ge s.size (widB b) with g | g
        · exact g
        · have := numO_yes h0 (by rw [eb.out]; exact hz) (by rw [eb.out]; exact g)
          rw [h] at this
          cases this
      have HW := Lib.hid (fun W => rwidth_any b W)
      have hbz : ((b.toNat : Int) == 0) = false := byte_ne hz rfl
      have hw8 := widB_le b
      generalize widB b = k at *
      go_enter Tryd.func14, Tryd.ntmps14
      go_wp2_with (go_at_call 16; (with_reducible refine (HW.out _).mono ?_); rintro e w1 ⟨rfl, rfl⟩)
      exact bodyPost_ret (v := .tuple #[.int .u64 0, .int .i64 0]) (by simp [results, Tryd.results14, go_sem]) rfl ⟨rfl, rfl⟩
  · have hz : s.size = 0 := by omega
    go_enter Tryd.func14, Tryd.ntmps14
    go_wp2
    exact bodyPost_ret (v := .tuple #[.int .u64 0, .int .i64 0]) (by simp [results, Tryd.results14, go_sem]) rfl ⟨rfl, rfl⟩

set_option maxHeartbeats 1000000 in
set_option maxRecDepth 100000 in
theorem rnumber_one (s : ByteArray) (w : World) (h : numO s = true) (hs : s.size ≤ 9223372036854775807) :
    Calls Tryd.prog 14 #[.string s] w fun e w' => e = .returned (.tuple #[.int .u64 ((numG s).1 : Nat), .int .i64 ((numG s).2 : Nat)]) ∧ w = w' := by
  obtain ⟨h0, h1, h2⟩ := numO_all h
  have HG := Lib.hid (numG_yes h)
  have HV := Lib.hid (highV_bit h1)
  obtain ⟨b, hb, eb⟩ : ∃ b : UInt8, s[0]'h0 = b ∧ Hid (s[0]! = b) := ⟨_, rfl, getElem!_pos s 0 h0⟩
  rw [eb.out] at h1 h2 HG HV
  have HW := Lib.hid (fun W => rwidth_any b W)
  have hne : ((s.size : Int) == 0) = false := by rw [beq_eq_false_iff_ne]; omega
  have hbz : ((b.toNat : Int) == 0) = false := byte_ne h1 rfl
  have hw8 := widB_le b
  have hw1 := widB_pos b
  generalize widB b = K at *
  have HP : Hid (∀ W, Calls Tryd.prog 23 #[.int .i64 (7 * (K : Int))] W fun e w' => e = .returned (.int .u64 ((2 ^ (7 * K) : Nat) : Int)) ∧ W = w') := Lib.hid fun W => by
    have := rpower_any (7 * K) W (by omega)
    rwa [show ((7 * K : Nat) : Int) = 7 * (K : Int) from by omega] at this
  have hpk := pow_k (k := K) (by omega)
  go_enter Tryd.func14, Tryd.ntmps14
  go_wp2_with (go_at_call 16; (with_reducible refine (HW.out _).mono ?_); rintro e w1 ⟨rfl, rfl⟩)
  go_loop [5, 6] (fun n i => ∃ k : Nat, k ≤ K ∧ i = .int .i64 k ∧ n = .int .u64 (highV s k : Nat)) (fun _ i => K - (intOf i).toNat)
  case atStart => exact ⟨0, by omega, rfl, rfl⟩
  case round =>
    obtain ⟨k, hk, rfl, rfl⟩ := hrel
    by_cases hlt : k < K
    · have hx := high_56 s (k := k) (by omega)
      have HN := Lib.hid (show highV s (k + 1) = highV s k * 256 + s[k]!.toNat from rfl)
      obtain ⟨c, hc⟩ : ∃ c, c = s[k]! := ⟨_, rfl⟩
      rw [← hc] at HN
      have hi : s[k]'(by omega) = c := by rw [hc]; exact (getElem!_pos s k (by omega)).symm
      have hc8 := c.toNat_lt
      clear hc HV
      generalize highV s k = m at *
      go_wp2
      go_round
      case rel => exact ⟨k + 1, by omega, by go_num, by rw [HN.out, Nat.mul_comm]; go_num⟩
      case measure => simp [intOf]; omega
    · obtain rfl : k = K := by omega
      have h3 := HV.out.1
      have h4 : highV s k < 18446744073709551616 := by
        have := HV.out.2
        rw [Nat.pow_succ] at this
        omega
      have HGG := Lib.hid HG.out
      clear HG HV
      generalize 2 ^ (7 * k) = p at *
      generalize highV s k = m at *
      go_wp2_with (go_at_call 23; (with_reducible refine (HP.out _).mono ?_); rintro e w1 ⟨rfl, rfl⟩)
      exact bodyPost_ret (v := .tuple #[.int .u64 ((m - p : Nat) : Int), .int .i64 (k : Nat)]) (by simp [results, Tryd.results14, go_sem]; try omega) rfl ⟨by rw [HGG.out], rfl⟩

end Go.Proofs.YtcjcbbahhphcdaaDoor

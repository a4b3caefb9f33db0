/-
  What lowestFirst and member of package pack answer. Condition: the text is not longer than memory.
-/
import Derived.Test.YtcoblepgehjamaaWd
import Derived.Test.YtcoblepgehjamaaVf
import Derived.Test.YtcoblepgehjamaaRun
import Derived.BigQuiet
import Derived.Deep.QuietTactic
import Derived.OwnWalk
import Derived.LoopTactic
import Derived.WalkKit
import Derived.Lib.Hide
namespace Go.Proofs.Ytcoblepgehjamaa
open Go.RowKit

theorem or_low64 (m b k : Nat) (hk : k < 4) (hm : m < 256 ^ k) (hb : b < 256) : bits .or .u64 (m : Int) (IntKind.u64.wrap ((b : Int) * 2 ^ (8 * k))) = ((m + b * 256 ^ k : Nat) : Int) := by
  have key : ∀ i p : Nat, p = 2 ^ i → p ≤ 16777216 → m < p → bits .or .u64 (m : Int) (IntKind.u64.wrap ((b : Int) * (p : Int))) = ((m + b * p : Nat) : Int) := fun i p hp h1 h2 => by
    have h3 : b * p ≤ 255 * p := Nat.mul_le_mul_right _ (by omega)
    have e : IntKind.u64.wrap ((b : Int) * (p : Int)) = ((b * p : Nat) : Int) := by
      rw [← Int.natCast_mul]
      show ((b * p : Nat) : Int) % 18446744073709551616 = _
      omega
    rw [e, u64_or_nat _ _ (by omega) (by omega), Nat.or_comm, nat_join i (b * p) m (by rw [hp]; exact Nat.mul_mod_left _ _) (by omega), Nat.add_comm]
  have h : k = 0 ∨ k = 1 ∨ k = 2 ∨ k = 3 := by omega
  rcases h with rfl | rfl | rfl | rfl
  · exact key 0 1 rfl (by decide) (by simpa using hm)
  · exact key 8 256 rfl (by decide) (by simpa using hm)
  · exact key 16 65536 rfl (by decide) (by simpa using hm)
  · exact key 24 16777216 rfl (by decide) (by simpa using hm)

set_option maxHeartbeats 1000000 in
theorem plow_any (t : ByteArray) (w : World) (ht : t.size ≤ 4) :
    Calls Try.prog 32 #[.string t] w fun e w' => e = .returned (.int .u64 (lowV t t.size : Nat)) ∧ w' = w := by
  go_enter Try.func32, Try.ntmps32
  go_wp2
  go_loop [3, 7] (fun m i => ∃ k : Nat, k ≤ t.size ∧ i = .int .i64 k ∧ m = .int .u64 (lowV t k : Nat)) (fun _ i => t.size - (intOf i).toNat)
  case atStart => exact ⟨0, by omega, rfl, rfl⟩
  case round =>
    obtain ⟨k, hk, rfl, rfl⟩ := hrel
    by_cases hlt : k < t.size
    · have hx := lowV_lt t k
      have hV := Lib.hid (show lowV t (k + 1) = lowV t k + t[k]!.toNat * 256 ^ k from rfl)
      obtain ⟨b, hb⟩ : ∃ b, b = t[k]! := ⟨_, rfl⟩
      rw [← hb] at hV
      have hi : t[k]'(by omega) = b := by rw [hb]; exact (getElem!_pos t k (by omega)).symm
      have hb8 := b.toNat_lt
      clear hb
      generalize lowV t k = m at *
      go_wp2
      go_round
      case rel => exact ⟨k + 1, by omega, by go_num, by rw [hV.out, or_low64 m _ k (by omega) hx hb8]⟩
      case measure => simp [intOf]; omega
    · obtain rfl : k = t.size := by omega
      go_wp2
      go_ret
      exact ⟨rfl, rfl⟩

theorem cut_at {s : ByteArray} {i n j : Nat} (h : i + n ≤ s.size) (hj : j < n) : (s.extract i (i + n))[j]! = s[i + j]! := by
  have h1 : j < (s.extract i (i + n)).size := by simp; omega
  rw [getElem!_pos (s.extract i (i + n)) j h1, getElem!_pos s (i + j) (by omega)]
  exact ByteArray.getElem_extract h1
theorem low_two {s : ByteArray} {i : Nat} (h : i + 2 ≤ s.size) : lowV (s.extract i (i + 2)) (s.extract i (i + 2)).size = twoB s i := by
  have e : (s.extract i (i + 2)).size = 2 := by simp; omega
  rw [e, lowV, lowV, lowV, cut_at h (j := 0) (by omega), cut_at h (j := 1) (by omega)]
  unfold twoB
  rw [Nat.add_zero i]
  omega
theorem low_four {s : ByteArray} {i : Nat} (h : i + 4 ≤ s.size) : lowV (s.extract i (i + 4)) (s.extract i (i + 4)).size = twoB s i + 65536 * twoB s (i + 2) := by
  have e : (s.extract i (i + 4)).size = 4 := by simp; omega
  rw [e, lowV, lowV, lowV, lowV, lowV, cut_at h (j := 0) (by omega), cut_at h (j := 1) (by omega), cut_at h (j := 2) (by omega), cut_at h (j := 3) (by omega)]
  unfold twoB
  rw [Nat.add_zero i, show i + 2 + 1 = i + 3 from rfl]
  omega
abbrev pkS : ByteArray := ⟨#[80, 75, 3, 4]⟩
theorem pref_head {s : ByteArray} (h : 30 ≤ s.size) : prefB s pkS = memH s := by
  have d1 : decide (pkS.size ≤ s.size) = true := by
    have : pkS.size = 4 := rfl
    simp; omega
  have d2 : decide (30 ≤ s.size) = true := by simpa using h
  have e : (s.extract 0 pkS.size).toList = [s[0]!, s[1]!, s[2]!, s[3]!] := by
    rw [Lib.toList_data, ByteArray.data_extract, Array.toList_extract]
    rw [getElem!_pos s 0 (by omega), getElem!_pos s 1 (by omega), getElem!_pos s 2 (by omega), getElem!_pos s 3 (by omega)]
    have e0 := drop_cons s 0 (by omega)
    rw [drop_cons s (0 + 1) (by omega), drop_cons s (0 + 1 + 1) (by omega), drop_cons s (0 + 1 + 1 + 1) (by omega)] at e0
    rw [List.extract_eq_take_drop, e0]
    rfl
  unfold prefB memH
  rw [d1, d2, e, show pkS.toList = [80, 75, 3, 4] from by rw [Lib.toList_data]]
  simp [List.cons_beq_cons]

set_option maxHeartbeats 2000000 in
theorem member_yes (x : ByteArray) (w : World) (hx : x.size ≤ 140737488355328) (hh : memH x = true) (hk : memK x ≤ x.size) :
    Calls Try.prog 26 #[.string x] w fun e w' => e = .returned (.tuple #[.int .i64 (memK x : Nat), .bool true]) ∧ Drn w w' := by
  have h30 := memH_size hh
  have HP : Hid (∀ W, Calls Try.prog 31 #[.string x, .string pkS] W fun e w' => e = .returned (.bool true) ∧ W = w') := Lib.hid fun W => by
    have := hasPrefix_any x pkS W (by omega) (by decide)
    rwa [pref_head h30, hh] at this
  have h26 := two_lt x 26
  have h28 := two_lt x 28
  have h18 := two_lt x 18
  have h20 := two_lt x 20
  have HT26 := Lib.hid (fun W => plow_any (x.extract 26 28) W (by simp; omega))
  have HT28 := Lib.hid (fun W => plow_any (x.extract 28 30) W (by simp; omega))
  have HT18 := Lib.hid (fun W => plow_any (x.extract 18 22) W (by simp; omega))
  rw [low_two (i := 26) (by omega)] at HT26
  rw [low_two (i := 28) (by omega)] at HT28
  rw [low_four (i := 18) (by omega)] at HT18
  have HK := Lib.hid (show memK x = 30 + twoB x 26 + twoB x 28 + (twoB x 18 + 65536 * twoB x 20) from by unfold memK; omega)
  have hk2 := hk
  rw [HK.out] at hk2
  obtain ⟨k3, hk3⟩ : ∃ k3, k3 = twoB x 18 + 65536 * twoB x 20 := ⟨_, rfl⟩
  have hl3 : k3 < 4294967296 := by omega
  rw [show twoB x 18 + 65536 * twoB x (18 + 2) = k3 from hk3.symm] at HT18
  rw [← hk3] at HK hk2
  clear hk3 h18 h20
  generalize twoB x 26 = k1 at *
  generalize twoB x 28 = k2 at *
  clear hk hh
  go_enter Try.func26, Try.ntmps26
  go_wp2_with (go_at_call 31; (with_reducible refine (HP.out _).mono ?_); rintro e w1 ⟨rfl, rfl⟩)
  go_quiet ((go_at_call 32; (first | with_reducible exact Calls.quiet_of_same (HT26.out _) | with_reducible exact Calls.quiet_of_same (HT28.out _) | with_reducible exact Calls.quiet_of_same (HT18.out _))))
  go_wp2
  exact bodyPost_ret (v := .tuple #[.int .i64 (30 + k1 + k2 + k3 : Nat), .bool true]) (by simp [results, Try.results26, go_sem]) rfl ⟨by rw [HK.out], _, rfl⟩

set_option maxHeartbeats 2000000 in
theorem member_no (x : ByteArray) (w : World) (hx : x.size ≤ 140737488355328) (hn : ¬(memH x = true ∧ memK x ≤ x.size)) :
    Calls Try.prog 26 #[.string x] w fun e w' => e = .returned (.tuple #[.int .i64 0, .bool false]) ∧ Drn w w' := by
  by_cases h30 : 30 ≤ x.size
  · cases hh : memH x
    · have HP : Hid (∀ W, Calls Try.prog 31 #[.string x, .string pkS] W fun e w' => e = .returned (.bool false) ∧ W = w') := Lib.hid fun W => by
        have := hasPrefix_any x pkS W (by omega) (by decide)
        rwa [pref_head h30, hh] at this
      clear hn hh
      as_aux_lemma =>
      go_enter Try.func26, Try.ntmps26
      go_wp2_with (go_at_call 31; (with_reducible refine (HP.out _).mono ?_); rintro e w1 ⟨rfl, rfl⟩)
      exact bodyPost_ret (v := .tuple #[.int .i64 0, .bool false]) (by simp [results, Try.results26, go_sem]) rfl ⟨rfl, 0, rfl⟩
    · have hk : x.size < memK x := by
        have : ¬memK x ≤ x.size := fun h => hn ⟨hh, h⟩
        omega
      have HP : Hid (∀ W, Calls Try.prog 31 #[.string x, .string pkS] W fun e w' => e = .returned (.bool true) ∧ W = w') := Lib.hid fun W => by
        have := hasPrefix_any x pkS W (by omega) (by decide)
        rwa [pref_head h30, hh] at this
      have h26 := two_lt x 26
      have h28 := two_lt x 28
      have h18 := two_lt x 18
      have h20 := two_lt x 20
      have HT26 := Lib.hid (fun W => plow_any (x.extract 26 28) W (by simp; omega))
      have HT28 := Lib.hid (fun W => plow_any (x.extract 28 30) W (by simp; omega))
      have HT18 := Lib.hid (fun W => plow_any (x.extract 18 22) W (by simp; omega))
      rw [low_two (i := 26) (by omega)] at HT26
      rw [low_two (i := 28) (by omega)] at HT28
      rw [low_four (i := 18) (by omega)] at HT18
      rw [show memK x = 30 + twoB x 26 + twoB x 28 + (twoB x 18 + 65536 * twoB x 20) from by unfold memK; omega] at hk
      obtain ⟨k3, hk3⟩ : ∃ k3, k3 = twoB x 18 + 65536 * twoB x 20 := ⟨_, rfl⟩
      have hl3 : k3 < 4294967296 := by omega
      rw [show twoB x 18 + 65536 * twoB x (18 + 2) = k3 from hk3.symm] at HT18
      rw [← hk3] at hk
      clear hk3 h18 h20 hn
      generalize twoB x 26 = k1 at *
      generalize twoB x 28 = k2 at *
      clear hh
      as_aux_lemma =>
      go_enter Try.func26, Try.ntmps26
      go_wp2_with (go_at_call 31; (with_reducible refine (HP.out _).mono ?_); rintro e w1 ⟨rfl, rfl⟩)
      go_quiet ((go_at_call 32; (first | with_reducible exact Calls.quiet_of_same (HT26.out _) | with_reducible exact Calls.quiet_of_same (HT28.out _) | with_reducible exact Calls.quiet_of_same (HT18.out _))))
      go_wp2
      exact bodyPost_ret (v := .tuple #[.int .i64 0, .bool false]) (by simp [results, Try.results26, go_sem]) rfl ⟨rfl, _, rfl⟩
  · clear hn
    as_aux_lemma =>
    go_enter Try.func26, Try.ntmps26
    go_wp2
    exact bodyPost_ret (v := .tuple #[.int .i64 0, .bool false]) (by simp [results, Try.results26, go_sem]) rfl ⟨rfl, 0, rfl⟩

end Go.Proofs.Ytcoblepgehjamaa

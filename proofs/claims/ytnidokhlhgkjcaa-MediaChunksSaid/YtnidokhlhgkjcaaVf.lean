/-
  What lowestFirst, highestFirst and Chunk of package media answer, and Size of the document's own answer of layer 14. Condition: the text is not longer than memory.
-/
import Derived.Test.YtnidokhlhgkjcaaCut
import Derived.Test.YtnidokhlhgkjcaaMv
import Derived.Test.YtnidokhlhgkjcaaByte
import Derived.BigQuiet
import Derived.Deep.QuietTactic
import Derived.OwnWalk
import Derived.LoopTactic
import Derived.WalkKit
import Derived.Lib.Hide
namespace Go.Proofs.Ytnidokhlhgkjcaa
open Go.RowKit

/-- The number of the first k bytes, the lowest first. -/
def lowV (t : ByteArray) : Nat → Nat
  | 0 => 0
  | k + 1 => lowV t k + t[k]!.toNat * 256 ^ k
/-- The number of the first k bytes, the highest first. -/
def highV (t : ByteArray) : Nat → Nat
  | 0 => 0
  | k + 1 => highV t k * 256 + t[k]!.toNat
theorem lowV_lt (t : ByteArray) : ∀ k, lowV t k < 256 ^ k
  | 0 => Nat.one_pos
  | k + 1 => by
    have := lowV_lt t k
    have h2 : t[k]!.toNat ≤ 255 := by have := t[k]!.toNat_lt; omega
    have h3 : t[k]!.toNat * 256 ^ k ≤ 255 * 256 ^ k := Nat.mul_le_mul_right _ h2
    rw [lowV, Nat.pow_succ]
    omega
theorem highV_lt (t : ByteArray) : ∀ k, highV t k < 256 ^ k
  | 0 => Nat.one_pos
  | k + 1 => by
    have := highV_lt t k
    have h2 : t[k]!.toNat ≤ 255 := by have := t[k]!.toNat_lt; omega
    rw [highV, Nat.pow_succ]
    omega

theorem or_high (m b : Nat) (hm : m < 16777216) (hb : b < 256) : bits .or .u32 ((m : Int) * 256) (b : Int) = ((m * 256 + b : Nat) : Int) := by
  rw [show (m : Int) * 256 = ((m * 256 : Nat) : Int) from by simp, u32_or_nat _ _ (by omega) (by omega), nat_join 8 (m * 256) b (by omega) (by omega)]
theorem or_low (m b k : Nat) (hk : k < 4) (hm : m < 256 ^ k) (hb : b < 256) : bits .or .u32 (m : Int) ((b : Int) * 2 ^ (8 * k) % 4294967296) = ((m + b * 256 ^ k : Nat) : Int) := by
  have key : ∀ i p : Nat, p = 2 ^ i → (b * p < 4294967296) → m < p → bits .or .u32 (m : Int) ((b : Int) * (p : Int) % 4294967296) = ((m + b * p : Nat) : Int) := fun i p hp h1 h2 => by
    have e : (b : Int) * (p : Int) % 4294967296 = ((b * p : Nat) : Int) := by
      rw [← Int.natCast_mul]
      omega
    have hm32 : m < 4294967296 := by
      rcases Nat.eq_zero_or_pos b with h0 | h0
      · have : p ≤ 16777216 ∨ 16777216 < p := by omega
        subst hp
        have h3 : m < 256 ^ 3 := Nat.lt_of_lt_of_le hm (Nat.pow_le_pow_right (by decide) (by omega))
        omega
      · have : p ≤ b * p := Nat.le_mul_of_pos_left p h0
        omega
    rw [e, u32_or_nat _ _ hm32 h1, Nat.or_comm, nat_join i (b * p) m (by rw [hp]; exact Nat.mul_mod_left _ _) (by omega), Nat.add_comm]
  have h : k = 0 ∨ k = 1 ∨ k = 2 ∨ k = 3 := by omega
  rcases h with rfl | rfl | rfl | rfl
  · exact key 0 1 rfl (by omega) (by simpa using hm)
  · exact key 8 256 rfl (by omega) (by simpa using hm)
  · exact key 16 65536 rfl (by omega) (by simpa using hm)
  · exact key 24 16777216 rfl (by omega) (by simpa using hm)

set_option maxHeartbeats 1000000 in
theorem highest_any (t : ByteArray) (w : World) (ht : t.size = 4) :
    Calls Try.prog 32 #[.string t] w fun e w' => e = .returned (.int .u32 (highV t 4 : Nat)) ∧ w = w' := by
  go_enter Try.func32, Try.ntmps32
  go_wp2
  go_loop [3, 7] (fun m i => ∃ k : Nat, k ≤ 4 ∧ i = .int .i64 k ∧ m = .int .u32 (highV t k : Nat)) (fun _ i => 4 - (intOf i).toNat)
  case atStart => exact ⟨0, by omega, rfl, rfl⟩
  case round =>
    obtain ⟨k, hk, rfl, rfl⟩ := hrel
    by_cases hlt : k < 4
    · have hx := highV_lt t k
      have h4 : 256 ^ k ≤ 256 ^ 3 := Nat.pow_le_pow_right (by decide) (by omega)
      have hV := Lib.hid (show highV t (k + 1) = highV t k * 256 + t[k]!.toNat from rfl)
      obtain ⟨b, hb⟩ : ∃ b, b = t[k]! := ⟨_, rfl⟩
      rw [← hb] at hV
      have hi : t[k]'(by omega) = b := by rw [hb]; exact (getElem!_pos t k (by omega)).symm
      have hb8 := b.toNat_lt
      clear hb
      generalize highV t k = m at *
      have h1 : m < 16777216 := by omega
      clear hx h4
      go_wp2
      go_round
      case rel => exact ⟨k + 1, by omega, by go_num, by rw [hV.out, or_high m _ h1 hb8]⟩
      case measure => simp [intOf]; omega
    · obtain rfl : k = 4 := by omega
      go_wp2
      go_ret
      exact ⟨rfl, rfl⟩

set_option maxHeartbeats 1000000 in
theorem lowest_any (t : ByteArray) (w : World) (ht : t.size = 4) :
    Calls Try.prog 31 #[.string t] w fun e w' => e = .returned (.int .u32 (lowV t 4 : Nat)) ∧ w = w' := by
  go_enter Try.func31, Try.ntmps31
  go_wp2
  go_loop [3, 7] (fun m i => ∃ k : Nat, k ≤ 4 ∧ i = .int .i64 k ∧ m = .int .u32 (lowV t k : Nat)) (fun _ i => 4 - (intOf i).toNat)
  case atStart => exact ⟨0, by omega, rfl, rfl⟩
  case round =>
    obtain ⟨k, hk, rfl, rfl⟩ := hrel
    by_cases hlt : k < 4
    · have hx := lowV_lt t k
      have hV := Lib.hid (show lowV t (k + 1) = lowV t k + t[k]!.toNat * 256 ^ k from rfl)
      obtain ⟨b, hb⟩ : ∃ b, b = t[k]! := ⟨_, rfl⟩
      rw [← hb] at hV
      have hi : t[k]'(by omega) = b := by rw [hb]; exact (getElem!_pos t k (by omega)).symm
      have hb8 := b.toNat_lt
      clear hb
      generalize lowV t k = m at *
      go_wp2
      go_round
      case rel => exact ⟨k + 1, by omega, by go_num, by rw [hV.out, or_low m _ k hlt hx hb8]⟩
      case measure => simp [intOf]; omega
    · obtain rfl : k = 4 := by omega
      go_wp2
      go_ret
      exact ⟨rfl, rfl⟩

abbrev riffS : ByteArray := ⟨#[82, 73, 70, 70]⟩
abbrev formS : ByteArray := ⟨#[70, 79, 82, 77]⟩
theorem mid_at {s : ByteArray} {j : Nat} (h : 8 ≤ s.size) (hj : j < 4) : (s.extract 4 8)[j]! = s[4 + j]! := by
  have h1 : j < (s.extract 4 8).size := by simp; omega
  rw [getElem!_pos (s.extract 4 8) j h1, getElem!_pos s (4 + j) (by omega)]
  exact ByteArray.getElem_extract h1
theorem low_val {s : ByteArray} (h : 8 ≤ s.size) : lowV (s.extract 4 8) 4 = s[4]!.toNat + 256 * (s[5]!.toNat + 256 * (s[6]!.toNat + 256 * s[7]!.toNat)) := by
  have h0 : (s.extract 4 8)[0]! = s[4]! := mid_at h (j := 0) (by omega)
  have h1 : (s.extract 4 8)[1]! = s[5]! := mid_at h (j := 1) (by omega)
  have h2 : (s.extract 4 8)[2]! = s[6]! := mid_at h (j := 2) (by omega)
  have h3 : (s.extract 4 8)[3]! = s[7]! := mid_at h (j := 3) (by omega)
  simp only [lowV, h0, h1, h2, h3]
  omega
theorem high_val {s : ByteArray} (h : 8 ≤ s.size) : highV (s.extract 4 8) 4 = s[7]!.toNat + 256 * (s[6]!.toNat + 256 * (s[5]!.toNat + 256 * s[4]!.toNat)) := by
  have h0 : (s.extract 4 8)[0]! = s[4]! := mid_at h (j := 0) (by omega)
  have h1 : (s.extract 4 8)[1]! = s[5]! := mid_at h (j := 1) (by omega)
  have h2 : (s.extract 4 8)[2]! = s[6]! := mid_at h (j := 2) (by omega)
  have h3 : (s.extract 4 8)[3]! = s[7]! := mid_at h (j := 3) (by omega)
  simp only [highV, h0, h1, h2, h3]
  omega

set_option maxHeartbeats 1000000 in
theorem chunk_short (s : ByteArray) (w : World) (h : s.size < 8) :
    Calls Try.prog 21 #[.string s] w fun e w' => e = .returned (.tuple #[.string ⟨#[]⟩, .int .u32 0, .bool false]) ∧ w = w' := by
  go_enter Try.func21, Try.ntmps21
  go_wp2
  exact bodyPost_ret (v := .tuple #[.string ⟨#[]⟩, .int .u32 0, .bool false]) (by simp [results, Try.results21, go_sem]) rfl ⟨rfl, rfl⟩
set_option maxHeartbeats 1000000 in
theorem chunk_riff (s : ByteArray) (w : World) (h : 8 ≤ s.size) (hs : s.size ≤ 9223372036854775807) (hr : ((s.extract 0 4).toList == [82, 73, 70, 70]) = true) :
    Calls Try.prog 21 #[.string s] w fun e w' => e = .returned (.tuple #[.string riffS, .int .u32 (lowV (s.extract 4 8) 4 : Nat), .bool true]) ∧ w = w' := by
  have HL := Lib.hid (fun W => lowest_any (s.extract 4 8) W (by simp; omega))
  go_enter Try.func21, Try.ntmps21
  go_wp2_with (go_at_call 31; (with_reducible refine (HL.out _).mono ?_); rintro e w1 ⟨rfl, rfl⟩)
  exact bodyPost_ret (v := .tuple #[.string riffS, .int .u32 (lowV (s.extract 4 8) 4 : Nat), .bool true]) (by simp [results, Try.results21, go_sem]) rfl ⟨rfl, rfl⟩
set_option maxHeartbeats 1000000 in
theorem chunk_form (s : ByteArray) (w : World) (h : 8 ≤ s.size) (hs : s.size ≤ 9223372036854775807) (hn : ((s.extract 0 4).toList == [82, 73, 70, 70]) = false) (hr : ((s.extract 0 4).toList == [70, 79, 82, 77]) = true) :
    Calls Try.prog 21 #[.string s] w fun e w' => e = .returned (.tuple #[.string formS, .int .u32 (highV (s.extract 4 8) 4 : Nat), .bool true]) ∧ w = w' := by
  have HL := Lib.hid (fun W => highest_any (s.extract 4 8) W (by simp; omega))
  go_enter Try.func21, Try.ntmps21
  go_wp2_with (go_at_call 32; (with_reducible refine (HL.out _).mono ?_); rintro e w1 ⟨rfl, rfl⟩)
  exact bodyPost_ret (v := .tuple #[.string formS, .int .u32 (highV (s.extract 4 8) 4 : Nat), .bool true]) (by simp [results, Try.results21, go_sem]) rfl ⟨rfl, rfl⟩
set_option maxHeartbeats 1000000 in
theorem chunk_none (s : ByteArray) (w : World) (h : 8 ≤ s.size) (hs : s.size ≤ 9223372036854775807) (hn : ((s.extract 0 4).toList == [82, 73, 70, 70]) = false) (hr : ((s.extract 0 4).toList == [70, 79, 82, 77]) = false) :
    Calls Try.prog 21 #[.string s] w fun e w' => e = .returned (.tuple #[.string ⟨#[]⟩, .int .u32 0, .bool false]) ∧ w = w' := by
  go_enter Try.func21, Try.ntmps21
  go_wp2
  exact bodyPost_ret (v := .tuple #[.string ⟨#[]⟩, .int .u32 0, .bool false]) (by simp [results, Try.results21, go_sem]) rfl ⟨rfl, rfl⟩

set_option maxHeartbeats 1000000 in
theorem size_short (s : ByteArray) (w : World) (h : s.size < 8) :
    Calls Try.prog 22 #[.string s] w fun e w' => e = .returned (.int .i64 (-1)) ∧ w = w' := by
  go_enter Try.func22, Try.ntmps22
  go_wp2
  go_ret
  exact ⟨rfl, rfl⟩
theorem size_letters {s : ByteArray} (h : 8 ≤ s.size) : ∃ a b c d : UInt8, (s[4]'(by omega) = a ∧ s[5]'(by omega) = b ∧ s[6]'(by omega) = c ∧ s[7]'(by omega) = d) ∧ Hid (s[4]! = a ∧ s[5]! = b ∧ s[6]! = c ∧ s[7]! = d) :=
  ⟨s[4]'(by omega), s[5]'(by omega), s[6]'(by omega), s[7]'(by omega), ⟨rfl, rfl, rfl, rfl⟩, ⟨getElem!_pos s 4 (by omega), getElem!_pos s 5 (by omega), getElem!_pos s 6 (by omega), getElem!_pos s 7 (by omega)⟩⟩
set_option maxHeartbeats 2000000 in
theorem size_riff (s : ByteArray) (w : World) (h : 8 ≤ s.size) (hs : s.size ≤ 9223372036854775807) (hr : ((s.extract 0 4).toList == [82, 73, 70, 70]) = true) :
    Calls Try.prog 22 #[.string s] w fun e w' => e = .returned (.int .i64 (lowV (s.extract 4 8) 4 : Nat)) ∧ Below w.heap.size w w' := by
  obtain ⟨a, b, c, d, ⟨h4, h5, h6, h7⟩, H⟩ := size_letters h
  have HV := Lib.hid (low_val h)
  rw [H.out.1, H.out.2.1, H.out.2.2.1, H.out.2.2.2] at HV
  have ha := a.toNat_lt
  have hb := b.toNat_lt
  have hc := c.toNat_lt
  have hd := d.toNat_lt
  go_enter Try.func22, Try.ntmps22
  go_wp2
  go_quiet (fail)
  go_wp2
  go_ret
  exact ⟨by rw [HV.out]; go_num, Below.drewN' (Below.refl _ _) _⟩
set_option maxHeartbeats 2000000 in
theorem size_form (s : ByteArray) (w : World) (h : 8 ≤ s.size) (hs : s.size ≤ 9223372036854775807) (hn : ((s.extract 0 4).toList == [82, 73, 70, 70]) = false) (hr : ((s.extract 0 4).toList == [70, 79, 82, 77]) = true) :
    Calls Try.prog 22 #[.string s] w fun e w' => e = .returned (.int .i64 (highV (s.extract 4 8) 4 : Nat)) ∧ Below w.heap.size w w' := by
  obtain ⟨a, b, c, d, ⟨h4, h5, h6, h7⟩, H⟩ := size_letters h
  have HV := Lib.hid (high_val h)
  rw [H.out.1, H.out.2.1, H.out.2.2.1, H.out.2.2.2] at HV
  have ha := a.toNat_lt
  have hb := b.toNat_lt
  have hc := c.toNat_lt
  have hd := d.toNat_lt
  go_enter Try.func22, Try.ntmps22
  go_wp2
  go_quiet (fail)
  go_wp2
  go_ret
  exact ⟨by rw [HV.out]; go_num, Below.drewN' (Below.refl _ _) _⟩
set_option maxHeartbeats 2000000 in
theorem size_none (s : ByteArray) (w : World) (h : 8 ≤ s.size) (hs : s.size ≤ 9223372036854775807) (hn : ((s.extract 0 4).toList == [82, 73, 70, 70]) = false) (hr : ((s.extract 0 4).toList == [70, 79, 82, 77]) = false) :
    Calls Try.prog 22 #[.string s] w fun e w' => e = .returned (.int .i64 (-1)) ∧ Below w.heap.size w w' := by
  obtain ⟨a, b, c, d, ⟨h4, h5, h6, h7⟩, H⟩ := size_letters h
  have ha := a.toNat_lt
  have hb := b.toNat_lt
  have hc := c.toNat_lt
  have hd := d.toNat_lt
  go_enter Try.func22, Try.ntmps22
  go_wp2
  go_quiet (fail)
  go_wp2
  go_ret
  exact ⟨rfl, Below.drewN' (Below.refl _ _) _⟩

end Go.Proofs.Ytnidokhlhgkjcaa

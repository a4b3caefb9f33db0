/-
  What package webm's functions but Is answer. Condition: the texts are not longer than memory.
-/
import Derived.Test.YtcjcbbahhphcdaaDoorUb
import Derived.Test.YtcjcbbahhphcdaaDoorSh17
import Derived.Test.YtcjcbbahhphcdaaDoorClass3
import Derived.Laws.MakeOwn
import Derived.LoopTactic
import Derived.Test.YtcjcbbahhphcdaaDoorWd
import Derived.WalkKit
import Derived.Lib.Hide
namespace Go.Proofs.YtcjcbbahhphcdaaDoor
open Go.RowKit

set_option maxHeartbeats 400000 in
theorem width_any (b : UInt8) (w : World) :
    Calls Tryd.prog 15 #[.int .u8 (b.toNat : Int)] w fun e w' => e = .returned (.int .i64 (widB b : Nat)) ∧ w = w' := by
  have hb := b.toNat_lt
  have HL := Lib.hid (fun W => bits_LeadingZeros8 (b.toNat : Int) W (by omega) (by omega))
  have hz : ((b.toNat : Int)).toNat = b.toNat := rfl
  rw [hz] at HL
  have HW := Lib.hid (widB_bits b)
  have hl : Lib.bitLen b.toNat ≤ 8 := by
    have := bytes_all (p := fun b => decide (Lib.bitLen b.toNat ≤ 8)) (by kernel_rfl) b
    simpa using this
  generalize Lib.bitLen b.toNat = l at *
  by_cases h0 : l = 0
  · subst h0
    rw [HW.out]
    go_enter Tryd.func15, Tryd.ntmps15
    go_wp2_with (go_at_call 24; (with_reducible refine (HL.out _).mono ?_); rintro e w1 ⟨rfl, rfl⟩)
    go_ret
    exact ⟨rfl, rfl⟩
  · have h1 : (1 + (8 - (l : Int))) ≤ 8 := by omega
    rw [HW.out, if_pos h1]
    go_enter Tryd.func15, Tryd.ntmps15
    go_wp2_with (go_at_call 24; (with_reducible refine (HL.out _).mono ?_); rintro e w1 ⟨rfl, rfl⟩)
    go_ret
    exact ⟨congrArg (fun n => Ending.returned (.int .i64 n)) (Int.min_eq_left h1), rfl⟩

set_option maxHeartbeats 400000 in
theorem sizeBit_any (k : Nat) (w : World) (h0 : 0 < k) (h9 : k < 9) :
    Calls Tryd.prog 22 #[.int .i64 (k : Nat)] w fun e w' => e = .returned (.int .u64 ((2 ^ (7 * k) : Nat) : Int)) ∧ w = w' := by
  have hk : k = 1 ∨ k = 2 ∨ k = 3 ∨ k = 4 ∨ k = 5 ∨ k = 6 ∨ k = 7 ∨ k = 8 := by omega
  rcases hk with rfl | rfl | rfl | rfl | rfl | rfl | rfl | rfl
  all_goals
    as_aux_lemma =>
    go_enter Tryd.func22, Tryd.ntmps22
    go_wp2
    go_ret
    exact ⟨rfl, rfl⟩

set_option maxHeartbeats 400000 in
theorem unpadded_any (s : ByteArray) (w : World) :
    Calls Tryd.prog 21 #[.string s] w fun e w' => e = .returned (.string ⟨(Lib.trimLeftB s.data.toList 0).toArray⟩) ∧ w = w' := by
  have HL := Lib.hid (fun W => strings_TrimLeft_one s 0 (by decide) W)
  generalize (⟨(Lib.trimLeftB s.data.toList 0).toArray⟩ : ByteArray) = x at *
  go_enter Tryd.func21, Tryd.ntmps21
  go_wp2_with (go_at_call 26; (with_reducible refine (HL.out _).mono ?_); rintro e w1 ⟨rfl, rfl⟩)
  go_ret
  exact ⟨rfl, rfl⟩

theorem hasPrefix_beg (s t : ByteArray) (w : World) : Calls Tryd.prog 19 #[.string s, .string t] w fun e w' => e = .returned (.bool (begS s t)) ∧ w = w' :=
  (strings_HasPrefix s t w).mono fun _ _ ⟨h1, h2⟩ => ⟨by rw [h1, begS_list], h2.symm⟩
theorem trim_size (s : ByteArray) : (⟨(Lib.trimLeftB s.data.toList 0).toArray⟩ : ByteArray).size + lzL s.data.toList = s.size := by
  have h := trim_len s.data.toList
  have e : (⟨(Lib.trimLeftB s.data.toList 0).toArray⟩ : ByteArray).size = (Lib.trimLeftB s.data.toList 0).length := by
    show ((Lib.trimLeftB s.data.toList 0).toArray).size = _
    simp
  rw [e, Lib.size_eq s]
  unfold lzL
  omega

set_option maxHeartbeats 1000000 in
theorem padded_any (s t : ByteArray) (w : World) (hs : s.size ≤ 9223372036854775807) (ht : t.size ≤ 9223372036854775807) :
    Calls Tryd.prog 10 #[.string s, .string t] w fun e w' => e = .returned (.bool (padB s t)) ∧ w = w' := by
  have HS := Lib.hid (fun W => unpadded_any s W)
  have HT := Lib.hid (fun W => unpadded_any t W)
  have hz := trim_size s
  have hy := trim_size t
  have HP := Lib.hid (padB_list s t)
  have HB := Lib.hid (begS_list ⟨(Lib.trimLeftB s.data.toList 0).toArray⟩ ⟨(Lib.trimLeftB t.data.toList 0).toArray⟩)
  rw [show (⟨(Lib.trimLeftB s.data.toList 0).toArray⟩ : ByteArray).data.toList = Lib.trimLeftB s.data.toList 0 from by simp, show (⟨(Lib.trimLeftB t.data.toList 0).toArray⟩ : ByteArray).data.toList = Lib.trimLeftB t.data.toList 0 from by simp] at HB
  have HPP := Lib.hid (HP.out.trans (congrArg (fun q => (decide (lzL t.data.toList ≤ lzL s.data.toList) && q)) HB.out.symm))
  clear HP HB
  have HC := Lib.hid (fun W => hasPrefix_beg ⟨(Lib.trimLeftB s.data.toList 0).toArray⟩ ⟨(Lib.trimLeftB t.data.toList 0).toArray⟩ W)
  generalize (⟨(Lib.trimLeftB s.data.toList 0).toArray⟩ : ByteArray) = x at *
  generalize (⟨(Lib.trimLeftB t.data.toList 0).toArray⟩ : ByteArray) = y at *
  generalize lzL s.data.toList = a at *
  generalize lzL t.data.toList = b at *
  generalize begS x y = q at *
  rw [HPP.out]
  clear HPP
  have hx : x.size ≤ s.size := by omega
  have hyy : y.size ≤ t.size := by omega
  have hsa : (s.size : Int) - x.size = a := by omega
  have htb : (t.size : Int) - y.size = b := by omega
  clear hz hy
  by_cases hab : b ≤ a
  · rw [decide_eq_true hab]
    go_enter Tryd.func10, Tryd.ntmps10
    go_wp2_with (first
      | (go_at_call 21; (first | with_reducible refine (HS.out _).mono ?_ | with_reducible refine (HT.out _).mono ?_); rintro e w1 ⟨rfl, rfl⟩)
      | (go_at_call 19; (with_reducible refine (HC.out _).mono ?_); rintro e w1 ⟨rfl, rfl⟩))
    go_ret
    exact ⟨by simp, rfl⟩
  · rw [decide_eq_false hab]
    go_enter Tryd.func10, Tryd.ntmps10
    go_wp2_with (first
      | (go_at_call 21; (first | with_reducible refine (HS.out _).mono ?_ | with_reducible refine (HT.out _).mono ?_); rintro e w1 ⟨rfl, rfl⟩)
      | (go_at_call 19; (with_reducible refine (HC.out _).mono ?_); rintro e w1 ⟨rfl, rfl⟩))
    go_ret
    exact ⟨by simp, rfl⟩

theorem mark_any (s : ByteArray) (w : World) :
    Calls Tryd.prog 9 #[.string s] w fun e w' => e = .returned (.bool (begS s mrkS)) ∧ w = w' := by
  have HC := Lib.hid (fun W => hasPrefix_beg s mrkS W)
  generalize begS s mrkS = q at *
  go_enter Tryd.func9, Tryd.ntmps9
  go_wp2_with (go_at_call 19; (with_reducible refine (HC.out _).mono ?_); rintro e w1 ⟨rfl, rfl⟩)
  go_ret
  exact ⟨rfl, rfl⟩

set_option maxHeartbeats 1000000 in
theorem number_none (s : ByteArray) (w : World) (h : numO s = false) (hs : s.size ≤ 9223372036854775807) :
    Calls Tryd.prog 13 #[.string s] w fun e w' => e = .returned (.tuple #[.int .u64 0, .int .i64 0, .bool false]) ∧ w = w' := by
  by_cases h0 : 0 < s.size
  · obtain ⟨b, hb, eb⟩ : ∃ b : UInt8, s[0]'h0 = b ∧ Hid (s[0]! = b) := ⟨_, rfl, getElem!_pos s 0 h0⟩
    have hl : (s.toList == ([] : List UInt8)) = false := list_full h0
    by_cases hz : b = 0
    · subst hz
      go_enter Tryd.func13, Tryd.ntmps13
      go_wp2
      exact bodyPost_ret (v := .tuple #[.int .u64 0, .int .i64 0, .bool false]) (by simp [results, Tryd.results13, go_sem]) rfl ⟨rfl, rfl⟩
    · have hw : s.size < widB b := by
        rcases Nat.lt_or_ge s.size (widB b) with g | g
        · exact g
        · have := numO_yes h0 (by rw [eb.out]; exact hz) (by rw [eb.out]; exact g)
          rw [h] at this
          cases this
      have HW := Lib.hid (fun W => width_any b W)
      have hbz : ((b.toNat : Int) == 0) = false := byte_ne hz rfl
      have hw8 := widB_le b
      generalize widB b = k at *
      go_enter Tryd.func13, Tryd.ntmps13
      go_wp2_with (go_at_call 15; (with_reducible refine (HW.out _).mono ?_); rintro e w1 ⟨rfl, rfl⟩)
      exact bodyPost_ret (v := .tuple #[.int .u64 0, .int .i64 0, .bool false]) (by simp [results, Tryd.results13, go_sem]) rfl ⟨rfl, rfl⟩
  · have hl : (s.toList == ([] : List UInt8)) = true := list_empty (by omega)
    go_enter Tryd.func13, Tryd.ntmps13
    go_wp2
    exact bodyPost_ret (v := .tuple #[.int .u64 0, .int .i64 0, .bool false]) (by simp [results, Tryd.results13, go_sem]) rfl ⟨rfl, rfl⟩

theorem highV_56 (s : ByteArray) {k : Nat} (h : k < 8) : highV s k < 72057594037927936 := Nat.lt_of_lt_of_le (highV_lt s k) (Nat.le_trans (Nat.pow_le_pow_right (by decide) (by omega : k ≤ 7)) (by decide))

set_option maxHeartbeats 1000000 in
theorem number_one (s : ByteArray) (w : World) (h : numO s = true) (_hs : s.size ≤ 9223372036854775807) :
    Calls Tryd.prog 13 #[.string s] w fun e w' => e = .returned (.tuple #[.int .u64 ((numG s).1 : Nat), .int .i64 ((numG s).2 : Nat), .bool true]) ∧ w = w' := by
  obtain ⟨h0, h1, h2⟩ := numO_all h
  have HG := Lib.hid (numG_yes h)
  have HV := Lib.hid (highV_bit h1)
  obtain ⟨b, hb, eb⟩ : ∃ b : UInt8, s[0]'h0 = b ∧ Hid (s[0]! = b) := ⟨_, rfl, getElem!_pos s 0 h0⟩
  rw [eb.out] at h1 h2 HG HV
  have hl : (s.toList == ([] : List UInt8)) = false := list_full h0
  have HW := Lib.hid (fun W => width_any b W)
  have hbz : ((b.toNat : Int) == 0) = false := byte_ne h1 rfl
  have hw8 := widB_le b
  have hw1 := widB_pos b
  generalize widB b = K at *
  have HSB := Lib.hid (fun W => sizeBit_any K W (by omega) (by omega))
  have HOFF := Lib.hid (bits_off (n := highV s K) (k := K) (by omega) HV.out.1 HV.out.2)
  go_enter Tryd.func13, Tryd.ntmps13
  go_wp2_with (go_at_call 15; (with_reducible refine (HW.out _).mono ?_); rintro e w1 ⟨rfl, rfl⟩)
  go_loop [2, 5, 21] (fun n _ i => ∃ k : Nat, k ≤ K ∧ i = .int .i64 k ∧ n = .int .u64 (highV s k : Nat)) (fun _ _ i => K - (intOf i).toNat)
  case atStart => exact ⟨0, by omega, rfl, rfl⟩
  case round =>
    obtain ⟨k, hk, rfl, rfl⟩ := hrel
    by_cases hlt : k < K
    · have hx := highV_56 s (k := k) (by omega)
      have HN := Lib.hid (show highV s (k + 1) = highV s k * 256 + s[k]!.toNat from rfl)
      obtain ⟨c, hc⟩ : ∃ c, c = s[k]! := ⟨_, rfl⟩
      rw [← hc] at HN
      have hi : s[k]'(by omega) = c := by rw [hc]; exact (getElem!_pos s k (by omega)).symm
      have hc8 := c.toNat_lt
      clear hc HV HOFF
      generalize highV s k = m at *
      go_wp2
      go_round
      case rel => exact ⟨k + 1, by omega, by go_num, by rw [HN.out, or_high64 m _ hx hc8]⟩
      case measure => simp [intOf]; omega
    · obtain rfl : k = K := by omega
      have hx : Hid (highV s k < 2 ^ (7 * k + 1)) := HV.out.2
      go_wp2_with (go_at_call 22; (with_reducible refine (HSB.out _).mono ?_); rintro e w1 ⟨rfl, rfl⟩)
      exact bodyPost_ret (v := .tuple #[.int .u64 ((highV s k - 2 ^ (7 * k) : Nat) : Int), .int .i64 (k : Nat), .bool true]) (by simp [results, Tryd.results13, go_sem]; exact HOFF.out) rfl ⟨by rw [HG.out], rfl⟩

end Go.Proofs.YtcjcbbahhphcdaaDoor

/-
  What the document's own answers of layer 17 but Is answer. Condition: the texts are not longer than memory.
-/
import Derived.Test.YtcjcbbahhphcdaaDoorUb
import Derived.Test.YtcjcbbahhphcdaaDoorWd
import Derived.Test.YtcjcbbahhphcdaaDoorMv
import Derived.Test.YtcjcbbahhphcdaaDoorClass3
import Derived.BigQuiet
import Derived.Deep.QuietTactic
import Derived.OwnWalk
import Derived.LoopTactic
import Derived.WalkKit
import Derived.Lib.Hide
namespace Go.Proofs.YtcjcbbahhphcdaaDoor
open Go.RowKit

/-- The bit that a first byte is held against when n bytes are reckoned. -/
def widP (n : Nat) : Nat := 128 / 2 ^ (n - 1)
theorem widP_next {n : Nat} (h : 1 ≤ n) : widP (n + 1) = widP n / 2 := by
  unfold widP
  rw [show n + 1 - 1 = (n - 1) + 1 from by omega, Nat.pow_succ, Nat.div_div_eq_div_mul]
theorem widP_le (n : Nat) : widP n ≤ 128 := Nat.div_le_self _ _
theorem widB_step (b : UInt8) {n : Nat} (h1 : 1 ≤ n) (h8 : n < 8) (h : n ≤ widB b) : (b.toNat < widP n → n + 1 ≤ widB b) ∧ (¬b.toNat < widP n → widB b = n) := by
  have := bytes_all (p := fun b => (List.range 8).all fun n => decide (n < 1) || (decide (widB b < n) || ((decide (b.toNat < widP n) && decide (n + 1 ≤ widB b)) || (!decide (b.toNat < widP n) && decide (widB b = n))))) (by kernel_rfl) b
  have := List.all_eq_true.1 this n (List.mem_range.2 h8)
  simp only [Bool.or_eq_true, Bool.and_eq_true, decide_eq_true_eq, Bool.not_eq_true', decide_eq_false_iff_not] at this
  omega

set_option maxHeartbeats 400000 in
theorem rwidth_any (b : UInt8) (w : World) :
    Calls Tryd.prog 16 #[.int .u8 (b.toNat : Int)] w fun e w' => e = .returned (.int .i64 (widB b : Nat)) ∧ w = w' := by
  have hb := b.toNat_lt
  have h1 := widB_pos b
  have hw8 := widB_le b
  have HS := Lib.hid (fun n => widB_step b (n := n))
  generalize widB b = K at *
  generalize b.toNat = B at *
  go_enter Tryd.func16, Tryd.ntmps16
  go_wp2
  go_loop [3, 4] (fun n p => ∃ k : Nat, 1 ≤ k ∧ k ≤ K ∧ n = .int .i64 k ∧ p = .int .i64 (widP k : Nat)) (fun n _ => 9 - (intOf n).toNat)
  case atStart => exact ⟨1, by omega, by omega, rfl, rfl⟩
  case round =>
    obtain ⟨k, hk1, hk, rfl, rfl⟩ := hrel
    have hp := widP_le k
    by_cases h8 : k < 8
    · have HT := Lib.hid (HS.out k hk1 h8 hk)
      have HP := Lib.hid (widP_next hk1)
      generalize widP k = p at *
      by_cases hlt : B < p
      · go_wp2
        go_round
        case rel => exact ⟨k + 1, by omega, HT.out.1 hlt, by go_num, by rw [HP.out]; go_num⟩
        case measure => simp [intOf]; omega
      · have hK := Lib.hid (HT.out.2 hlt)
        go_wp2
        go_ret
        exact ⟨by rw [hK.out]; rfl, rfl⟩
    · have hK := Lib.hid (show K = k from by omega)
      go_wp2
      go_ret
      exact ⟨by rw [hK.out]; rfl, rfl⟩

set_option maxHeartbeats 400000 in
theorem rpower_any (n : Nat) (w : World) (hn : n ≤ 56) :
    Calls Tryd.prog 23 #[.int .i64 (n : Int)] w fun e w' => e = .returned (.int .u64 ((2 ^ n : Nat) : Int)) ∧ w = w' := by
  go_enter Tryd.func23, Tryd.ntmps23
  go_wp2
  go_loop [3, 4] (fun p i => ∃ k : Nat, k ≤ n ∧ i = .int .i64 k ∧ p = .int .u64 ((2 ^ k : Nat) : Int)) (fun _ i => n - (intOf i).toNat)
  case atStart => exact ⟨0, by omega, rfl, rfl⟩
  case round =>
    obtain ⟨k, hk, rfl, rfl⟩ := hrel
    by_cases hlt : k < n
    · have hp : 2 ^ k ≤ 36028797018963968 := Nat.le_trans (Nat.pow_le_pow_right (by decide) (by omega : k ≤ 55)) (by decide)
      have HP := Lib.hid (Nat.pow_succ (m := k) (n := 2))
      generalize 2 ^ k = p at *
      go_wp2
      go_round
      case rel => exact ⟨k + 1, by omega, by go_num, by rw [HP.out, Nat.mul_comm]; go_num⟩
      case measure => simp [intOf]; omega
    · obtain rfl : k = n := by omega
      go_wp2
      go_ret
      exact ⟨rfl, rfl⟩

set_option maxHeartbeats 400000 in
set_option maxRecDepth 100000 in
theorem rfits_any (n : Nat) (z : Int) (w : World) (_hn : n < 18446744073709551616) :
    Calls Tryd.prog 18 #[.int .u64 (n : Int), .int .i64 z] w fun e w' => e = .returned (.bool (fitB n z.toNat)) ∧ w = w' := by
  by_cases h1 : 0 < z
  · obtain ⟨k, rfl⟩ : ∃ k : Nat, z = k := ⟨z.toNat, by omega⟩
    rw [Int.toNat_natCast]
    by_cases h9 : k < 9
    · have HP := Lib.hid (fun W => rpower_any (7 * k) W (by omega))
      have hF := Lib.hid (show fitB n k = decide (n < 2 ^ (7 * k)) from by unfold fitB; rw [decide_eq_true (by omega : 0 < k), decide_eq_true h9]; rfl)
      rw [hF.out]
      have hpk := pow_k h9
      generalize 2 ^ (7 * k) = p at *
      go_enter Tryd.func18, Tryd.ntmps18
      go_wp2_with (go_at_call 23; (refine (HP.out _).mono ?_); rintro e w1 ⟨rfl, rfl⟩)
      go_ret
      exact ⟨by simp, rfl⟩
    · have hF : fitB n k = false := by unfold fitB; rw [decide_eq_false h9]; simp
      rw [hF]
      go_enter Tryd.func18, Tryd.ntmps18
      go_wp2
      go_ret
      exact ⟨by simp; try omega, rfl⟩
  · have hF : fitB n z.toNat = false := by unfold fitB; rw [show z.toNat = 0 from by omega]; rfl
    rw [hF]
    go_enter Tryd.func18, Tryd.ntmps18
    go_wp2
    go_ret
    exact ⟨by simp; try omega, rfl⟩

set_option maxHeartbeats 400000 in
theorem rbegins_any (s t : ByteArray) (w : World) (_hs : s.size ≤ 9223372036854775807) (_ht : t.size ≤ 9223372036854775807) :
    Calls Tryd.prog 20 #[.string s, .string t] w fun e w' => e = .returned (.bool (begS s t)) ∧ w = w' := by
  have hF := Lib.hid (show begS s t = (decide (t.size ≤ s.size) && (s.extract 0 t.size).toList == t.toList) from rfl)
  rw [hF.out]
  by_cases h : t.size ≤ s.size
  · go_enter Tryd.func20, Tryd.ntmps20
    go_wp2
    go_ret
    exact ⟨by simp [h], rfl⟩
  · go_enter Tryd.func20, Tryd.ntmps20
    go_wp2
    go_ret
    exact ⟨by simp [h], rfl⟩

set_option maxHeartbeats 1000000 in
theorem rpadded_any (s t : ByteArray) (w : World) (hs : s.size ≤ 9223372036854775806) (ht : t.size ≤ 9223372036854775807) :
    Calls Tryd.prog 11 #[.string s, .string t] w fun e w' => e = .returned (.bool (padB s t)) ∧ w = w' := by
  have HP := Lib.hid (show padA s t 0 = padB s t from rfl)
  have HB := Lib.hid (fun i W => rbegins_any (s.extract i s.size) t W (by simp; omega) ht)
  go_enter Tryd.func11, Tryd.ntmps11
  go_wp2
  go_loop [5] (fun i => ∃ k : Nat, k ≤ s.size + 1 ∧ i = .int .i64 k ∧ Hid (k ≤ s.size → padA s t k = padB s t) ∧ Hid (k = s.size + 1 → padB s t = false)) (fun i => s.size + 1 - (intOf i).toNat)
  case atStart => exact ⟨0, by omega, rfl, Lib.hid fun _ => HP.out, Lib.hid fun h => by omega⟩
  case round =>
    obtain ⟨k, hk1, rfl, HK, HL⟩ := hrel
    by_cases hk : k ≤ s.size
    · have HBK := Lib.hid (fun W => HB.out k W)
      have HH := Lib.hid (padA_here (s := s) (t := t) hk)
      have HE := Lib.hid (fun h2 => padA_end (s := s) (t := t) (i := k) h2)
      have HS := Lib.hid (fun h2 => padA_stop (s := s) (t := t) (i := k) h2)
      have HN := Lib.hid (fun h2 => padA_next (s := s) (t := t) (i := k) h2)
      have HKK := Lib.hid (HK.out hk)
      clear HB HK HL
      cases hc : begS (s.extract k s.size) t
      · rw [hc] at HBK
        by_cases hlt : k < s.size
        · obtain ⟨b, hb, eb⟩ : ∃ b : UInt8, s[k]'hlt = b ∧ Hid (s[k]! = b) := ⟨_, rfl, getElem!_pos s k hlt⟩
          by_cases hz : b = 0
          · subst hz
            have HV := Lib.hid (HN.out hlt hc eb.out)
            go_wp2_with (go_at_call 20; (with_reducible refine (HBK.out _).mono ?_); rintro e w1 ⟨rfl, rfl⟩)
            go_round
            case rel => exact ⟨k + 1, by omega, by go_num, Lib.hid fun _ => HV.out.symm.trans HKK.out, Lib.hid fun h => by omega⟩
            case measure => simp [intOf]; omega
          · have HV := Lib.hid (HKK.out.symm.trans (HS.out hlt hc (by rw [eb.out]; exact hz)))
            have hbz : ((b.toNat : Int) == 0) = false := byte_ne hz rfl
            go_wp2_with (go_at_call 20; (with_reducible refine (HBK.out _).mono ?_); rintro e w1 ⟨rfl, rfl⟩)
            go_ret
            exact ⟨by rw [HV.out]; rfl, rfl⟩
        · have HV := Lib.hid (HKK.out.symm.trans (HE.out (by omega) hc))
          go_wp2_with (go_at_call 20; (with_reducible refine (HBK.out _).mono ?_); rintro e w1 ⟨rfl, rfl⟩)
          go_round
          case rel => exact ⟨k + 1, by omega, by go_num, Lib.hid fun h => by omega, Lib.hid fun _ => HV.out⟩
          case measure => simp [intOf]; omega
      · rw [hc] at HBK
        have HV := Lib.hid (HKK.out.symm.trans (HH.out hc))
        go_wp2_with (go_at_call 20; (with_reducible refine (HBK.out _).mono ?_); rintro e w1 ⟨rfl, rfl⟩)
        go_ret
        exact ⟨by rw [HV.out]; rfl, rfl⟩
    · have HV := Lib.hid (HL.out (by omega))
      go_wp2
      go_ret
      exact ⟨by rw [HV.out]; rfl, rfl⟩

end Go.Proofs.YtcjcbbahhphcdaaDoor

/-
  What Text of layer 5 answers, and the document's own. Condition: the library's table of powers of ten is laid.
-/
import Derived.Test.YtpnkdcakhjejnaaDoorItoa
import Derived.Test.YtpnkdcakhjejnaaDoorDig
import Derived.WalkKit
import Derived.WalkSpells
import Derived.WalkLawsBesides
import Derived.Lib.Hide
namespace Go.Proofs.YtpnkdcakhjejnaaDoor
open Go.RowKit

set_option maxHeartbeats 400000 in
theorem text_any (n : Int) (w : World) (h0 : -9223372036854775808 ≤ n) (h1 : n ≤ 9223372036854775807) (ht : PowTab w) :
    Calls Tryd.prog 4 #[.int .i64 n] w fun e w' => e = .returned (.string ⟨(Lib.itoa n).toArray⟩) ∧ Below w.heap.size w w' := by
  have HI := Lib.hid (itoa_any n w h0 h1 ht)
  go_enter Tryd.func4, Tryd.ntmps4
  go_wp2_with (go_at_call 8; refine HI.out.mono ?_; rintro e w1 ⟨rfl, hb⟩)
  go_ret
  exact ⟨rfl, hb⟩

def tenS : ByteArray := ⟨#[48, 49, 50, 51, 52, 53, 54, 55, 56, 57]⟩
theorem tenS_piece {u : Nat} (h : u < 10) : tenS.extract u (u + 1) = digS u := by
  have key : (List.range 10).all (fun u => decide (tenS.extract u (u + 1) = (⟨#[UInt8.ofNat (48 + u)]⟩ : ByteArray))) = true := by kernel_rfl
  rw [List.all_eq_true] at key
  have := key u (List.mem_range.2 h)
  rw [decide_eq_true_eq] at this
  rw [this]
  unfold digS
  rw [Lib.decDigits, dif_pos h]

theorem digS_join {u : Nat} (h : ¬ u < 10) : digS (u / 10) ++ digS (u % 10) = digS u := by
  have e : Lib.decDigits u = Lib.decDigits (u / 10) ++ Lib.decDigits (u % 10) := by
    rw [Lib.decDigits, dif_neg h]
    congr 1
    rw [Lib.decDigits, dif_pos (by omega)]
  unfold digS
  rw [e]
  apply ByteArray.ext
  rw [ByteArray.data_append]
  simp

set_option maxHeartbeats 1000000 in
theorem num_nat (k : Nat) : ∀ (u : Nat) (w : World), u ≤ k → u < 18446744073709551616 →
    Calls Tryd.prog 9 #[.int .u64 (u : Int)] w fun e w' => e = .returned (.string (digS u)) ∧ w = w' := by
  induction k with
  | zero =>
    intro u w hk _
    obtain rfl : u = 0 := by omega
    have HV := Lib.hid (tenS_piece (u := 0) (by omega))
    go_enter Tryd.func9, Tryd.ntmps9
    go_wp2_with fail
    go_ret
    exact ⟨by rw [← HV.out]; rfl, rfl⟩
  | succ k ih =>
    intro u w hk hu
    by_cases h : u < 10
    · have HV := Lib.hid (tenS_piece h)
      have g1 : (u : Int) < 10 := by omega
      go_enter Tryd.func9, Tryd.ntmps9
      go_wp2_with fail
      go_ret
      exact ⟨by rw [← HV.out]; rfl, rfl⟩
    · have HV := Lib.hid (digS_join h)
      have l1 := digS_le (u := u / 10) (by omega)
      have l2 := digS_le (u := u % 10) (by omega)
      have HQ : Hid (∀ W, Calls Tryd.prog 9 #[.int .u64 ((u : Int) / 10)] W fun e w' => e = .returned (.string (digS (u / 10))) ∧ W = w') := fun W => ih (u / 10) W (by omega) (by omega)
      have HR : Hid (∀ W, Calls Tryd.prog 9 #[.int .u64 ((u : Int) % 10)] W fun e w' => e = .returned (.string (digS (u % 10))) ∧ W = w') := fun W => ih (u % 10) W (by omega) (by omega)
      have g1 : ¬ (u : Int) < 10 := by omega
      clear ih
      generalize digS (u / 10) = x at *
      generalize digS (u % 10) = y at *
      go_enter Tryd.func9, Tryd.ntmps9
      go_wp2_with (first
        | (go_at_call 9; with_reducible refine (HQ.out _).mono ?_; rintro e w' ⟨rfl, rfl⟩)
        | (go_at_call 9; with_reducible refine (HR.out _).mono ?_; rintro e w' ⟨rfl, rfl⟩))
      go_ret
      exact ⟨by rw [← HV.out]; rfl, rfl⟩

theorem num_int (x : Int) (w : World) (h0 : 0 ≤ x) (h1 : x < 18446744073709551616) :
    Calls Tryd.prog 9 #[.int .u64 x] w fun e w' => e = .returned (.string (digS x.toNat)) ∧ w = w' := by
  have := num_nat x.toNat x.toNat w (Nat.le_refl _) (by omega)
  rwa [Int.toNat_of_nonneg h0] at this

theorem minus_join (u : Nat) : (⟨#[45]⟩ : ByteArray) ++ digS u = negS u := by
  unfold digS negS
  apply ByteArray.ext
  rw [ByteArray.data_append]
  simp

set_option maxHeartbeats 400000 in
theorem refText_neg (u : Nat) (w : World) (h0 : 1 ≤ u) (h1 : u ≤ 9223372036854775808) :
    Calls Tryd.prog 5 #[.int .i64 (-(u : Int))] w fun e w' => e = .returned (.string (negS u)) ∧ w = w' := by
  have hl := digS_le (u := u) (by omega)
  have HV := Lib.hid (minus_join u)
  have HN : Hid (∀ (x : Int) W, x = u → Calls Tryd.prog 9 #[.int .u64 x] W fun e w' => e = .returned (.string (digS u)) ∧ W = w') := fun x W hx => by
    have := num_int x W (by omega) (by omega)
    rwa [show x.toNat = u by omega] at this
  have g1 : -(u : Int) < 0 := by omega
  generalize digS u = y at *
  go_enter Tryd.func5, Tryd.ntmps5
  go_wp2_with (go_at_call 9; refine (HN.out _ _ (by omega)).mono ?_; rintro e w' ⟨rfl, rfl⟩)
  go_ret
  exact ⟨by rw [← HV.out]; rfl, rfl⟩

set_option maxHeartbeats 400000 in
theorem refText_pos (u : Nat) (w : World) (h1 : u ≤ 9223372036854775807) :
    Calls Tryd.prog 5 #[.int .i64 (u : Int)] w fun e w' => e = .returned (.string (digS u)) ∧ w = w' := by
  have HN : Hid (∀ W, Calls Tryd.prog 9 #[.int .u64 (u : Int)] W fun e w' => e = .returned (.string (digS u)) ∧ W = w') := fun W => num_nat u u W (Nat.le_refl _) (by omega)
  have g1 : ¬ (u : Int) < 0 := by omega
  generalize digS u = y at *
  go_enter Tryd.func5, Tryd.ntmps5
  go_wp2_with (go_at_call 9; refine (HN.out _).mono ?_; rintro e w' ⟨rfl, rfl⟩)
  go_ret
  exact ⟨rfl, rfl⟩

end Go.Proofs.YtpnkdcakhjejnaaDoor

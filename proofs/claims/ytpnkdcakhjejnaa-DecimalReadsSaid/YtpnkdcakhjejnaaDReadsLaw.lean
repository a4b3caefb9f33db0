/-
  The law DecimalReads returns true of every text. Condition: the text is as long as a length can be.
-/
import Derived.Test.YtpnkdcakhjejnaaRef5
import Derived.Test.YtpnkdcakhjejnaaCut
namespace Go.Proofs.Ytpnkdcakhjejnaa
open Go.RowKit

set_option maxHeartbeats 1000000 in
theorem reads_short_none (s u : ByteArray) (k : Nat) (n e m : Int) (w : World) (hu : u.size ≤ 60) (hk : k ≤ u.size) (e1 : decide ((1 : Int) < (u.size : Int)) = false)
    (HC : Hid (∀ W, Calls Try.prog 5 #[.string s, .int .i64 60] W fun e w' => e = .returned (.string u) ∧ W = w'))
    (HP : Hid (∀ W, Calls Try.prog 6 #[.string u] W fun r w' => r = .returned (.tuple #[.int .i64 n, .int .i64 e]) ∧ Below W.heap.size W w'))
    (HS : Hid (∀ W, Calls Try.prog 7 #[.string u] W fun r w' => r = .returned (.tuple #[.int .i64 n, .int .i64 e]) ∧ Below W.heap.size W w'))
    (HR : Hid (∀ W, Calls Try.prog 8 #[.string u] W fun r w' => r = .returned (.tuple #[.int .i64 n, .int .i64 e]) ∧ W = w'))
    (HX : Hid (∀ W, Calls Try.prog 8 #[.string (u.extract 0 k)] W fun r w' => r = .returned (.tuple #[.int .i64 0, .int .i64 2]) ∧ W = w'))
    (HN : Hid (∀ W, Calls Try.prog 9 #[.string u] W fun r w' => r = .returned (.int .i64 k) ∧ W = w'))
    (HF : Hid (∀ W, Calls Try.prog 10 #[.string u] W fun r w' => r = .returned (.tuple #[.int .i64 0, .int .i64 k]) ∧ W = w')) :
    Calls Try.prog 3 #[.string s] w fun e w' => e = .returned (.bool true) ∧ Below w.heap.size w w' := by
  go_enter Try.func3, Try.ntmps3
  go_wp2_with (first
    | (go_at_call 5; refine (HC.out _).mono ?_; rintro e w' ⟨rfl, rfl⟩)
    | (go_at_call 6; refine (HP.out _).mono ?_; rintro e w1 ⟨rfl, hb1⟩)
    | (go_at_call 7; refine (HS.out _).mono ?_; rintro e w2 ⟨rfl, hb2⟩)
    | (go_at_call 8; with_reducible refine (HR.out _).mono ?_; rintro e w' ⟨rfl, rfl⟩)
    | (go_at_call 8; with_reducible refine (HX.out _).mono ?_; rintro e w' ⟨rfl, rfl⟩)
    | (go_at_call 9; refine (HN.out _).mono ?_; rintro e w' ⟨rfl, rfl⟩)
    | (go_at_call 10; refine (HF.out _).mono ?_; rintro e w' ⟨rfl, rfl⟩)
    | (go_at_call 11; refine (lives_any _).mono ?_; rintro e w3 ⟨rfl, hb3⟩))
  go_ret
  exact ⟨rfl, hb1.trans ((hb2.mono hb1.size).trans (hb3.mono (Nat.le_trans hb1.size hb2.size)))⟩

set_option maxHeartbeats 1000000 in
theorem reads_short_ok (s u : ByteArray) (k : Nat) (n e m : Int) (w : World) (hu : u.size ≤ 60) (hk : k ≤ u.size) (e1 : decide ((1 : Int) < (u.size : Int)) = false)
    (HC : Hid (∀ W, Calls Try.prog 5 #[.string s, .int .i64 60] W fun e w' => e = .returned (.string u) ∧ W = w'))
    (HP : Hid (∀ W, Calls Try.prog 6 #[.string u] W fun r w' => r = .returned (.tuple #[.int .i64 n, .int .i64 e]) ∧ Below W.heap.size W w'))
    (HS : Hid (∀ W, Calls Try.prog 7 #[.string u] W fun r w' => r = .returned (.tuple #[.int .i64 n, .int .i64 e]) ∧ Below W.heap.size W w'))
    (HR : Hid (∀ W, Calls Try.prog 8 #[.string u] W fun r w' => r = .returned (.tuple #[.int .i64 n, .int .i64 e]) ∧ W = w'))
    (HX : Hid (∀ W, Calls Try.prog 8 #[.string (u.extract 0 k)] W fun r w' => r = .returned (.tuple #[.int .i64 m, .int .i64 0]) ∧ W = w'))
    (HN : Hid (∀ W, Calls Try.prog 9 #[.string u] W fun r w' => r = .returned (.int .i64 k) ∧ W = w'))
    (HF : Hid (∀ W, Calls Try.prog 10 #[.string u] W fun r w' => r = .returned (.tuple #[.int .i64 m, .int .i64 k]) ∧ W = w')) :
    Calls Try.prog 3 #[.string s] w fun e w' => e = .returned (.bool true) ∧ Below w.heap.size w w' := by
  go_enter Try.func3, Try.ntmps3
  go_wp2_with (first
    | (go_at_call 5; refine (HC.out _).mono ?_; rintro e w' ⟨rfl, rfl⟩)
    | (go_at_call 6; refine (HP.out _).mono ?_; rintro e w1 ⟨rfl, hb1⟩)
    | (go_at_call 7; refine (HS.out _).mono ?_; rintro e w2 ⟨rfl, hb2⟩)
    | (go_at_call 8; with_reducible refine (HR.out _).mono ?_; rintro e w' ⟨rfl, rfl⟩)
    | (go_at_call 8; with_reducible refine (HX.out _).mono ?_; rintro e w' ⟨rfl, rfl⟩)
    | (go_at_call 9; refine (HN.out _).mono ?_; rintro e w' ⟨rfl, rfl⟩)
    | (go_at_call 10; refine (HF.out _).mono ?_; rintro e w' ⟨rfl, rfl⟩)
    | (go_at_call 11; refine (lives_any _).mono ?_; rintro e w3 ⟨rfl, hb3⟩))
  go_ret
  exact ⟨rfl, hb1.trans ((hb2.mono hb1.size).trans (hb3.mono (Nat.le_trans hb1.size hb2.size)))⟩

set_option maxHeartbeats 1000000 in
theorem reads_short_great (s u : ByteArray) (k : Nat) (n e m : Int) (w : World) (hu : u.size ≤ 60) (hk : k ≤ u.size) (e1 : decide ((1 : Int) < (u.size : Int)) = false)
    (HC : Hid (∀ W, Calls Try.prog 5 #[.string s, .int .i64 60] W fun e w' => e = .returned (.string u) ∧ W = w'))
    (HP : Hid (∀ W, Calls Try.prog 6 #[.string u] W fun r w' => r = .returned (.tuple #[.int .i64 n, .int .i64 e]) ∧ Below W.heap.size W w'))
    (HS : Hid (∀ W, Calls Try.prog 7 #[.string u] W fun r w' => r = .returned (.tuple #[.int .i64 n, .int .i64 e]) ∧ Below W.heap.size W w'))
    (HR : Hid (∀ W, Calls Try.prog 8 #[.string u] W fun r w' => r = .returned (.tuple #[.int .i64 n, .int .i64 e]) ∧ W = w'))
    (HX : Hid (∀ W, Calls Try.prog 8 #[.string (u.extract 0 k)] W fun r w' => r = .returned (.tuple #[.int .i64 0, .int .i64 9]) ∧ W = w'))
    (HN : Hid (∀ W, Calls Try.prog 9 #[.string u] W fun r w' => r = .returned (.int .i64 k) ∧ W = w'))
    (HF : Hid (∀ W, Calls Try.prog 10 #[.string u] W fun r w' => r = .returned (.tuple #[.int .i64 9007199254740991, .int .i64 k]) ∧ W = w')) :
    Calls Try.prog 3 #[.string s] w fun e w' => e = .returned (.bool true) ∧ Below w.heap.size w w' := by
  go_enter Try.func3, Try.ntmps3
  go_wp2_with (first
    | (go_at_call 5; refine (HC.out _).mono ?_; rintro e w' ⟨rfl, rfl⟩)
    | (go_at_call 6; refine (HP.out _).mono ?_; rintro e w1 ⟨rfl, hb1⟩)
    | (go_at_call 7; refine (HS.out _).mono ?_; rintro e w2 ⟨rfl, hb2⟩)
    | (go_at_call 8; with_reducible refine (HR.out _).mono ?_; rintro e w' ⟨rfl, rfl⟩)
    | (go_at_call 8; with_reducible refine (HX.out _).mono ?_; rintro e w' ⟨rfl, rfl⟩)
    | (go_at_call 9; refine (HN.out _).mono ?_; rintro e w' ⟨rfl, rfl⟩)
    | (go_at_call 10; refine (HF.out _).mono ?_; rintro e w' ⟨rfl, rfl⟩)
    | (go_at_call 11; refine (lives_any _).mono ?_; rintro e w3 ⟨rfl, hb3⟩))
  go_ret
  exact ⟨rfl, hb1.trans ((hb2.mono hb1.size).trans (hb3.mono (Nat.le_trans hb1.size hb2.size)))⟩

set_option maxHeartbeats 1000000 in
theorem reads_plain_none (s u : ByteArray) (k : Nat) (n e m : Int) (w : World) (hu : u.size ≤ 60) (hk : k ≤ u.size) (h0 : 0 < u.size) (e1 : decide ((1 : Int) < (u.size : Int)) = true) (e2 : ((u[0].toNat : Int) == 48) = false)
    (HC : Hid (∀ W, Calls Try.prog 5 #[.string s, .int .i64 60] W fun e w' => e = .returned (.string u) ∧ W = w'))
    (HP : Hid (∀ W, Calls Try.prog 6 #[.string u] W fun r w' => r = .returned (.tuple #[.int .i64 n, .int .i64 e]) ∧ Below W.heap.size W w'))
    (HS : Hid (∀ W, Calls Try.prog 7 #[.string u] W fun r w' => r = .returned (.tuple #[.int .i64 n, .int .i64 e]) ∧ Below W.heap.size W w'))
    (HR : Hid (∀ W, Calls Try.prog 8 #[.string u] W fun r w' => r = .returned (.tuple #[.int .i64 n, .int .i64 e]) ∧ W = w'))
    (HX : Hid (∀ W, Calls Try.prog 8 #[.string (u.extract 0 k)] W fun r w' => r = .returned (.tuple #[.int .i64 0, .int .i64 2]) ∧ W = w'))
    (HN : Hid (∀ W, Calls Try.prog 9 #[.string u] W fun r w' => r = .returned (.int .i64 k) ∧ W = w'))
    (HF : Hid (∀ W, Calls Try.prog 10 #[.string u] W fun r w' => r = .returned (.tuple #[.int .i64 0, .int .i64 k]) ∧ W = w')) :
    Calls Try.prog 3 #[.string s] w fun e w' => e = .returned (.bool true) ∧ Below w.heap.size w w' := by
  go_enter Try.func3, Try.ntmps3
  go_wp2_with (first
    | (go_at_call 5; refine (HC.out _).mono ?_; rintro e w' ⟨rfl, rfl⟩)
    | (go_at_call 6; refine (HP.out _).mono ?_; rintro e w1 ⟨rfl, hb1⟩)
    | (go_at_call 7; refine (HS.out _).mono ?_; rintro e w2 ⟨rfl, hb2⟩)
    | (go_at_call 8; with_reducible refine (HR.out _).mono ?_; rintro e w' ⟨rfl, rfl⟩)
    | (go_at_call 8; with_reducible refine (HX.out _).mono ?_; rintro e w' ⟨rfl, rfl⟩)
    | (go_at_call 9; refine (HN.out _).mono ?_; rintro e w' ⟨rfl, rfl⟩)
    | (go_at_call 10; refine (HF.out _).mono ?_; rintro e w' ⟨rfl, rfl⟩)
    | (go_at_call 11; refine (lives_any _).mono ?_; rintro e w3 ⟨rfl, hb3⟩))
  go_ret
  exact ⟨rfl, hb1.trans ((hb2.mono hb1.size).trans (hb3.mono (Nat.le_trans hb1.size hb2.size)))⟩

set_option maxHeartbeats 1000000 in
theorem reads_plain_ok (s u : ByteArray) (k : Nat) (n e m : Int) (w : World) (hu : u.size ≤ 60) (hk : k ≤ u.size) (h0 : 0 < u.size) (e1 : decide ((1 : Int) < (u.size : Int)) = true) (e2 : ((u[0].toNat : Int) == 48) = false)
    (HC : Hid (∀ W, Calls Try.prog 5 #[.string s, .int .i64 60] W fun e w' => e = .returned (.string u) ∧ W = w'))
    (HP : Hid (∀ W, Calls Try.prog 6 #[.string u] W fun r w' => r = .returned (.tuple #[.int .i64 n, .int .i64 e]) ∧ Below W.heap.size W w'))
    (HS : Hid (∀ W, Calls Try.prog 7 #[.string u] W fun r w' => r = .returned (.tuple #[.int .i64 n, .int .i64 e]) ∧ Below W.heap.size W w'))
    (HR : Hid (∀ W, Calls Try.prog 8 #[.string u] W fun r w' => r = .returned (.tuple #[.int .i64 n, .int .i64 e]) ∧ W = w'))
    (HX : Hid (∀ W, Calls Try.prog 8 #[.string (u.extract 0 k)] W fun r w' => r = .returned (.tuple #[.int .i64 m, .int .i64 0]) ∧ W = w'))
    (HN : Hid (∀ W, Calls Try.prog 9 #[.string u] W fun r w' => r = .returned (.int .i64 k) ∧ W = w'))
    (HF : Hid (∀ W, Calls Try.prog 10 #[.string u] W fun r w' => r = .returned (.tuple #[.int .i64 m, .int .i64 k]) ∧ W = w')) :
    Calls Try.prog 3 #[.string s] w fun e w' => e = .returned (.bool true) ∧ Below w.heap.size w w' := by
  go_enter Try.func3, Try.ntmps3
  go_wp2_with (first
    | (go_at_call 5; refine (HC.out _).mono ?_; rintro e w' ⟨rfl, rfl⟩)
    | (go_at_call 6; refine (HP.out _).mono ?_; rintro e w1 ⟨rfl, hb1⟩)
    | (go_at_call 7; refine (HS.out _).mono ?_; rintro e w2 ⟨rfl, hb2⟩)
    | (go_at_call 8; with_reducible refine (HR.out _).mono ?_; rintro e w' ⟨rfl, rfl⟩)
    | (go_at_call 8; with_reducible refine (HX.out _).mono ?_; rintro e w' ⟨rfl, rfl⟩)
    | (go_at_call 9; refine (HN.out _).mono ?_; rintro e w' ⟨rfl, rfl⟩)
    | (go_at_call 10; refine (HF.out _).mono ?_; rintro e w' ⟨rfl, rfl⟩)
    | (go_at_call 11; refine (lives_any _).mono ?_; rintro e w3 ⟨rfl, hb3⟩))
  go_ret
  exact ⟨rfl, hb1.trans ((hb2.mono hb1.size).trans (hb3.mono (Nat.le_trans hb1.size hb2.size)))⟩

set_option maxHeartbeats 1000000 in
theorem reads_plain_great (s u : ByteArray) (k : Nat) (n e m : Int) (w : World) (hu : u.size ≤ 60) (hk : k ≤ u.size) (h0 : 0 < u.size) (e1 : decide ((1 : Int) < (u.size : Int)) = true) (e2 : ((u[0].toNat : Int) == 48) = false)
    (HC : Hid (∀ W, Calls Try.prog 5 #[.string s, .int .i64 60] W fun e w' => e = .returned (.string u) ∧ W = w'))
    (HP : Hid (∀ W, Calls Try.prog 6 #[.string u] W fun r w' => r = .returned (.tuple #[.int .i64 n, .int .i64 e]) ∧ Below W.heap.size W w'))
    (HS : Hid (∀ W, Calls Try.prog 7 #[.string u] W fun r w' => r = .returned (.tuple #[.int .i64 n, .int .i64 e]) ∧ Below W.heap.size W w'))
    (HR : Hid (∀ W, Calls Try.prog 8 #[.string u] W fun r w' => r = .returned (.tuple #[.int .i64 n, .int .i64 e]) ∧ W = w'))
    (HX : Hid (∀ W, Calls Try.prog 8 #[.string (u.extract 0 k)] W fun r w' => r = .returned (.tuple #[.int .i64 0, .int .i64 9]) ∧ W = w'))
    (HN : Hid (∀ W, Calls Try.prog 9 #[.string u] W fun r w' => r = .returned (.int .i64 k) ∧ W = w'))
    (HF : Hid (∀ W, Calls Try.prog 10 #[.string u] W fun r w' => r = .returned (.tuple #[.int .i64 9007199254740991, .int .i64 k]) ∧ W = w')) :
    Calls Try.prog 3 #[.string s] w fun e w' => e = .returned (.bool true) ∧ Below w.heap.size w w' := by
  go_enter Try.func3, Try.ntmps3
  go_wp2_with (first
    | (go_at_call 5; refine (HC.out _).mono ?_; rintro e w' ⟨rfl, rfl⟩)
    | (go_at_call 6; refine (HP.out _).mono ?_; rintro e w1 ⟨rfl, hb1⟩)
    | (go_at_call 7; refine (HS.out _).mono ?_; rintro e w2 ⟨rfl, hb2⟩)
    | (go_at_call 8; with_reducible refine (HR.out _).mono ?_; rintro e w' ⟨rfl, rfl⟩)
    | (go_at_call 8; with_reducible refine (HX.out _).mono ?_; rintro e w' ⟨rfl, rfl⟩)
    | (go_at_call 9; refine (HN.out _).mono ?_; rintro e w' ⟨rfl, rfl⟩)
    | (go_at_call 10; refine (HF.out _).mono ?_; rintro e w' ⟨rfl, rfl⟩)
    | (go_at_call 11; refine (lives_any _).mono ?_; rintro e w3 ⟨rfl, hb3⟩))
  go_ret
  exact ⟨rfl, hb1.trans ((hb2.mono hb1.size).trans (hb3.mono (Nat.le_trans hb1.size hb2.size)))⟩

set_option maxHeartbeats 1000000 in
theorem reads_nought_none (s u : ByteArray) (k : Nat) (n e m : Int) (w : World) (hu : u.size ≤ 60) (hk : k ≤ u.size) (h0 : 0 < u.size) (e1 : decide ((1 : Int) < (u.size : Int)) = true) (e2 : ((u[0].toNat : Int) == 48) = true)
    (HC : Hid (∀ W, Calls Try.prog 5 #[.string s, .int .i64 60] W fun e w' => e = .returned (.string u) ∧ W = w'))
    (HP : Hid (∀ W, Calls Try.prog 6 #[.string u] W fun r w' => r = .returned (.tuple #[.int .i64 n, .int .i64 e]) ∧ Below W.heap.size W w'))
    (HS : Hid (∀ W, Calls Try.prog 7 #[.string u] W fun r w' => r = .returned (.tuple #[.int .i64 0, .int .i64 2]) ∧ Below W.heap.size W w'))
    (HR : Hid (∀ W, Calls Try.prog 8 #[.string u] W fun r w' => r = .returned (.tuple #[.int .i64 n, .int .i64 e]) ∧ W = w'))
    (HX : Hid (∀ W, Calls Try.prog 8 #[.string (u.extract 0 k)] W fun r w' => r = .returned (.tuple #[.int .i64 0, .int .i64 2]) ∧ W = w'))
    (HN : Hid (∀ W, Calls Try.prog 9 #[.string u] W fun r w' => r = .returned (.int .i64 k) ∧ W = w'))
    (HF : Hid (∀ W, Calls Try.prog 10 #[.string u] W fun r w' => r = .returned (.tuple #[.int .i64 0, .int .i64 k]) ∧ W = w')) :
    Calls Try.prog 3 #[.string s] w fun e w' => e = .returned (.bool true) ∧ Below w.heap.size w w' := by
  go_enter Try.func3, Try.ntmps3
  go_wp2_with (first
    | (go_at_call 5; refine (HC.out _).mono ?_; rintro e w' ⟨rfl, rfl⟩)
    | (go_at_call 6; refine (HP.out _).mono ?_; rintro e w1 ⟨rfl, hb1⟩)
    | (go_at_call 7; refine (HS.out _).mono ?_; rintro e w2 ⟨rfl, hb2⟩)
    | (go_at_call 8; with_reducible refine (HR.out _).mono ?_; rintro e w' ⟨rfl, rfl⟩)
    | (go_at_call 8; with_reducible refine (HX.out _).mono ?_; rintro e w' ⟨rfl, rfl⟩)
    | (go_at_call 9; refine (HN.out _).mono ?_; rintro e w' ⟨rfl, rfl⟩)
    | (go_at_call 10; refine (HF.out _).mono ?_; rintro e w' ⟨rfl, rfl⟩)
    | (go_at_call 11; refine (lives_any _).mono ?_; rintro e w3 ⟨rfl, hb3⟩))
  go_ret
  exact ⟨rfl, hb1.trans ((hb2.mono hb1.size).trans (hb3.mono (Nat.le_trans hb1.size hb2.size)))⟩

set_option maxHeartbeats 1000000 in
theorem reads_nought_ok (s u : ByteArray) (k : Nat) (n e m : Int) (w : World) (hu : u.size ≤ 60) (hk : k ≤ u.size) (h0 : 0 < u.size) (e1 : decide ((1 : Int) < (u.size : Int)) = true) (e2 : ((u[0].toNat : Int) == 48) = true)
    (HC : Hid (∀ W, Calls Try.prog 5 #[.string s, .int .i64 60] W fun e w' => e = .returned (.string u) ∧ W = w'))
    (HP : Hid (∀ W, Calls Try.prog 6 #[.string u] W fun r w' => r = .returned (.tuple #[.int .i64 n, .int .i64 e]) ∧ Below W.heap.size W w'))
    (HS : Hid (∀ W, Calls Try.prog 7 #[.string u] W fun r w' => r = .returned (.tuple #[.int .i64 0, .int .i64 2]) ∧ Below W.heap.size W w'))
    (HR : Hid (∀ W, Calls Try.prog 8 #[.string u] W fun r w' => r = .returned (.tuple #[.int .i64 n, .int .i64 e]) ∧ W = w'))
    (HX : Hid (∀ W, Calls Try.prog 8 #[.string (u.extract 0 k)] W fun r w' => r = .returned (.tuple #[.int .i64 m, .int .i64 0]) ∧ W = w'))
    (HN : Hid (∀ W, Calls Try.prog 9 #[.string u] W fun r w' => r = .returned (.int .i64 k) ∧ W = w'))
    (HF : Hid (∀ W, Calls Try.prog 10 #[.string u] W fun r w' => r = .returned (.tuple #[.int .i64 m, .int .i64 k]) ∧ W = w')) :
    Calls Try.prog 3 #[.string s] w fun e w' => e = .returned (.bool true) ∧ Below w.heap.size w w' := by
  go_enter Try.func3, Try.ntmps3
  go_wp2_with (first
    | (go_at_call 5; refine (HC.out _).mono ?_; rintro e w' ⟨rfl, rfl⟩)
    | (go_at_call 6; refine (HP.out _).mono ?_; rintro e w1 ⟨rfl, hb1⟩)
    | (go_at_call 7; refine (HS.out _).mono ?_; rintro e w2 ⟨rfl, hb2⟩)
    | (go_at_call 8; with_reducible refine (HR.out _).mono ?_; rintro e w' ⟨rfl, rfl⟩)
    | (go_at_call 8; with_reducible refine (HX.out _).mono ?_; rintro e w' ⟨rfl, rfl⟩)
    | (go_at_call 9; refine (HN.out _).mono ?_; rintro e w' ⟨rfl, rfl⟩)
    | (go_at_call 10; refine (HF.out _).mono ?_; rintro e w' ⟨rfl, rfl⟩)
    | (go_at_call 11; refine (lives_any _).mono ?_; rintro e w3 ⟨rfl, hb3⟩))
  go_ret
  exact ⟨rfl, hb1.trans ((hb2.mono hb1.size).trans (hb3.mono (Nat.le_trans hb1.size hb2.size)))⟩

set_option maxHeartbeats 1000000 in
theorem reads_nought_great (s u : ByteArray) (k : Nat) (n e m : Int) (w : World) (hu : u.size ≤ 60) (hk : k ≤ u.size) (h0 : 0 < u.size) (e1 : decide ((1 : Int) < (u.size : Int)) = true) (e2 : ((u[0].toNat : Int) == 48) = true)
    (HC : Hid (∀ W, Calls Try.prog 5 #[.string s, .int .i64 60] W fun e w' => e = .returned (.string u) ∧ W = w'))
    (HP : Hid (∀ W, Calls Try.prog 6 #[.string u] W fun r w' => r = .returned (.tuple #[.int .i64 n, .int .i64 e]) ∧ Below W.heap.size W w'))
    (HS : Hid (∀ W, Calls Try.prog 7 #[.string u] W fun r w' => r = .returned (.tuple #[.int .i64 0, .int .i64 2]) ∧ Below W.heap.size W w'))
    (HR : Hid (∀ W, Calls Try.prog 8 #[.string u] W fun r w' => r = .returned (.tuple #[.int .i64 n, .int .i64 e]) ∧ W = w'))
    (HX : Hid (∀ W, Calls Try.prog 8 #[.string (u.extract 0 k)] W fun r w' => r = .returned (.tuple #[.int .i64 0, .int .i64 9]) ∧ W = w'))
    (HN : Hid (∀ W, Calls Try.prog 9 #[.string u] W fun r w' => r = .returned (.int .i64 k) ∧ W = w'))
    (HF : Hid (∀ W, Calls Try.prog 10 #[.string u] W fun r w' => r = .returned (.tuple #[.int .i64 9007199254740991, .int .i64 k]) ∧ W = w')) :
    Calls Try.prog 3 #[.string s] w fun e w' => e = .returned (.bool true) ∧ Below w.heap.size w w' := by
  go_enter Try.func3, Try.ntmps3
  go_wp2_with (first
    | (go_at_call 5; refine (HC.out _).mono ?_; rintro e w' ⟨rfl, rfl⟩)
    | (go_at_call 6; refine (HP.out _).mono ?_; rintro e w1 ⟨rfl, hb1⟩)
    | (go_at_call 7; refine (HS.out _).mono ?_; rintro e w2 ⟨rfl, hb2⟩)
    | (go_at_call 8; with_reducible refine (HR.out _).mono ?_; rintro e w' ⟨rfl, rfl⟩)
    | (go_at_call 8; with_reducible refine (HX.out _).mono ?_; rintro e w' ⟨rfl, rfl⟩)
    | (go_at_call 9; refine (HN.out _).mono ?_; rintro e w' ⟨rfl, rfl⟩)
    | (go_at_call 10; refine (HF.out _).mono ?_; rintro e w' ⟨rfl, rfl⟩)
    | (go_at_call 11; refine (lives_any _).mono ?_; rintro e w3 ⟨rfl, hb3⟩))
  go_ret
  exact ⟨rfl, hb1.trans ((hb2.mono hb1.size).trans (hb3.mono (Nat.le_trans hb1.size hb2.size)))⟩

theorem decimalReads_any (s : ByteArray) (w : World) (hs : s.size ≤ 9223372036854775807) :
    Calls Try.prog 3 #[.string s] w fun e w' => e = .returned (.bool true) ∧ Below w.heap.size w w' := by
  have HC : Hid (∀ W, Calls Try.prog 5 #[.string s, .int .i64 60] W fun e w' => e = .returned (.string (cutB s 60)) ∧ W = w') := fun W => cut_any s 60 W hs
  have hu := cutB_size s 60
  generalize cutB s 60 = u at *
  have hs' : u.size ≤ 9223372036854775807 := by omega
  have HP : Hid (∀ W, Calls Try.prog 6 #[.string u] W fun r w' => r = .returned (.tuple #[.int .i64 (parN u), .int .i64 (parE u)]) ∧ Below W.heap.size W w') := fun W => parse_any u W hs'
  have HR : Hid (∀ W, Calls Try.prog 8 #[.string u] W fun r w' => r = .returned (.tuple #[.int .i64 (parN u), .int .i64 (parE u)]) ∧ W = w') := fun W => refParse_any u W hs'
  have HN := Lib.hid (fun W => refRun_any u W hs')
  have HF := Lib.hid (fun W => prefix_any u W hs')
  have HX := Lib.hid (fun W => refParse_any (u.extract 0 (runD u)) W (by simp; omega))
  have HS := Lib.hid (fun W => strict_any u W hs')
  have hk := runD_le u
  have hv : strV u = if nouB u = true then .tuple #[.int .i64 0, .int .i64 2] else .tuple #[.int .i64 (parN u), .int .i64 (parE u)] := rfl
  rw [hv] at HS
  clear hv
  by_cases hk0 : runD u = 0
  · have hx : parV (u.extract 0 (runD u)) = .tuple #[.int .i64 0, .int .i64 2] := parV_empty (by rw [hk0]; simp)
    have hp : preV u = .tuple #[.int .i64 0, .int .i64 (runD u : Nat)] := by unfold preV; rw [hk0]; rfl
    rw [hx] at HX
    rw [hp] at HF
    by_cases h2 : 1 < u.size
    · have hn := nouB_at h2
      cases hb : ((u[0].toNat : Int) == 48)
      · rw [hn, hb, if_neg (by simp)] at HS
        exact reads_plain_none s u _ _ _ 0 w hu hk (by omega) (by simp; omega) hb HC HP HS HR HX HN HF
      · rw [hn, hb, if_pos rfl] at HS
        exact reads_nought_none s u _ _ _ 0 w hu hk (by omega) (by simp; omega) hb HC HP HS HR HX HN HF
    · rw [nouB_short h2, if_neg (by simp)] at HS
      exact reads_short_none s u _ _ _ 0 w hu hk (by simp; omega) HC HP HS HR HX HN HF
  · have hx := parV_head hk0
    by_cases h1 : numK u (runD u) ≤ 9007199254740991
    · have hp : preV u = .tuple #[.int .i64 (numK u (runD u) : Nat), .int .i64 (runD u : Nat)] := by unfold preV; rw [if_pos h1]
      rw [if_pos h1] at hx
      rw [hx] at HX
      rw [hp] at HF
      by_cases h2 : 1 < u.size
      · have hn := nouB_at h2
        cases hb : ((u[0].toNat : Int) == 48)
        · rw [hn, hb, if_neg (by simp)] at HS
          exact reads_plain_ok s u _ _ _ _ w hu hk (by omega) (by simp; omega) hb HC HP HS HR HX HN HF
        · rw [hn, hb, if_pos rfl] at HS
          exact reads_nought_ok s u _ _ _ _ w hu hk (by omega) (by simp; omega) hb HC HP HS HR HX HN HF
      · rw [nouB_short h2, if_neg (by simp)] at HS
        exact reads_short_ok s u _ _ _ _ w hu hk (by simp; omega) HC HP HS HR HX HN HF
    · have hp : preV u = .tuple #[.int .i64 9007199254740991, .int .i64 (runD u : Nat)] := by unfold preV; rw [if_neg h1]
      rw [if_neg h1] at hx
      rw [hx] at HX
      rw [hp] at HF
      by_cases h2 : 1 < u.size
      · have hn := nouB_at h2
        cases hb : ((u[0].toNat : Int) == 48)
        · rw [hn, hb, if_neg (by simp)] at HS
          exact reads_plain_great s u _ _ _ 0 w hu hk (by omega) (by simp; omega) hb HC HP HS HR HX HN HF
        · rw [hn, hb, if_pos rfl] at HS
          exact reads_nought_great s u _ _ _ 0 w hu hk (by omega) (by simp; omega) hb HC HP HS HR HX HN HF
      · rw [nouB_short h2, if_neg (by simp)] at HS
        exact reads_short_great s u _ _ _ 0 w hu hk (by simp; omega) HC HP HS HR HX HN HF

end Go.Proofs.Ytpnkdcakhjejnaa

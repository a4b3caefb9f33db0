/-
  The law DecimalTexts returns true of every number. Condition: it is an int, and the library's table of powers of ten is laid.
-/
import Derived.Test.YtpnkdcakhjejnaaDoorText
import Derived.Test.YtpnkdcakhjejnaaDoorRef5
namespace Go.Proofs.YtpnkdcakhjejnaaDoor
open Go.RowKit

set_option maxHeartbeats 1000000 in
theorem texts_neg (u : Nat) (w : World) (h0 : 1 ≤ u) (h1 : u ≤ 9223372036854775808) (ht : PowTab w) :
    Calls Tryd.prog 3 #[.int .i64 (-(u : Int))] w fun e w' => e = .returned (.bool true) ∧ Below w.heap.size w w' := by
  have HT := Lib.hid (text_any (-(u : Int)) w (by omega) (by omega) ht)
  rw [itoa_minus h0] at HT
  have HR := Lib.hid (fun W => refText_neg u W h0 h1)
  have hz := negS_size u
  have hl := digS_le (u := u) (by omega)
  rw [digS_size] at hl
  have HS := Lib.hid (fun W => strict_any (negS u) W (by omega))
  rw [negS_str] at HS
  have g1 : -(u : Int) < 0 := by omega
  clear hz hl
  generalize negS u = y at *
  go_enter Tryd.func3, Tryd.ntmps3
  go_wp2_with (first
    | (go_at_call 4; refine HT.out.mono ?_; rintro e w1 ⟨rfl, hb1⟩)
    | (go_at_call 5; refine (HR.out _).mono ?_; rintro e w' ⟨rfl, rfl⟩)
    | (go_at_call 6; refine (HS.out _).mono ?_; rintro e w2 ⟨rfl, hb2⟩)
    | (go_at_call 7; refine (lives_any _).mono ?_; rintro e w3 ⟨rfl, hb3⟩))
  go_ret
  exact ⟨rfl, hb1.trans ((hb2.mono hb1.size).trans (hb3.mono (Nat.le_trans hb1.size hb2.size)))⟩

set_option maxHeartbeats 1000000 in
theorem texts_ok (u : Nat) (w : World) (h1 : u ≤ 9007199254740991) (ht : PowTab w) :
    Calls Tryd.prog 3 #[.int .i64 (u : Int)] w fun e w' => e = .returned (.bool true) ∧ Below w.heap.size w w' := by
  have HT := Lib.hid (text_any (u : Int) w (by omega) (by omega) ht)
  rw [itoa_pos] at HT
  have HR := Lib.hid (fun W => refText_pos u W (by omega))
  have hl := digS_le (u := u) (by omega)
  have HS := Lib.hid (fun W => strict_any (digS u) W (by omega))
  rw [digS_str_ok h1] at HS
  have g1 : ¬ (u : Int) < 0 := by omega
  have g2 : decide ((9007199254740991 : Int) < (u : Int)) = false := by simp; omega
  clear hl
  generalize digS u = y at *
  go_enter Tryd.func3, Tryd.ntmps3
  go_wp2_with (first
    | (go_at_call 4; refine HT.out.mono ?_; rintro e w1 ⟨rfl, hb1⟩)
    | (go_at_call 5; refine (HR.out _).mono ?_; rintro e w' ⟨rfl, rfl⟩)
    | (go_at_call 6; refine (HS.out _).mono ?_; rintro e w2 ⟨rfl, hb2⟩)
    | (go_at_call 7; refine (lives_any _).mono ?_; rintro e w3 ⟨rfl, hb3⟩))
  go_ret
  exact ⟨rfl, hb1.trans ((hb2.mono hb1.size).trans (hb3.mono (Nat.le_trans hb1.size hb2.size)))⟩

set_option maxHeartbeats 1000000 in
theorem texts_great (u : Nat) (w : World) (h0 : 9007199254740991 < u) (h1 : u ≤ 9223372036854775807) (ht : PowTab w) :
    Calls Tryd.prog 3 #[.int .i64 (u : Int)] w fun e w' => e = .returned (.bool true) ∧ Below w.heap.size w w' := by
  have HT := Lib.hid (text_any (u : Int) w (by omega) (by omega) ht)
  rw [itoa_pos] at HT
  have HR := Lib.hid (fun W => refText_pos u W (by omega))
  have hl := digS_le (u := u) (by omega)
  have HS := Lib.hid (fun W => strict_any (digS u) W (by omega))
  rw [digS_str_great h0] at HS
  have g1 : ¬ (u : Int) < 0 := by omega
  have g2 : decide ((9007199254740991 : Int) < (u : Int)) = true := by simp; omega
  clear hl
  generalize digS u = y at *
  go_enter Tryd.func3, Tryd.ntmps3
  go_wp2_with (first
    | (go_at_call 4; refine HT.out.mono ?_; rintro e w1 ⟨rfl, hb1⟩)
    | (go_at_call 5; refine (HR.out _).mono ?_; rintro e w' ⟨rfl, rfl⟩)
    | (go_at_call 6; refine (HS.out _).mono ?_; rintro e w2 ⟨rfl, hb2⟩)
    | (go_at_call 7; refine (lives_any _).mono ?_; rintro e w3 ⟨rfl, hb3⟩))
  go_ret
  exact ⟨rfl, hb1.trans ((hb2.mono hb1.size).trans (hb3.mono (Nat.le_trans hb1.size hb2.size)))⟩

theorem decimalTexts_any (n : Int) (w : World) (h0 : -9223372036854775808 ≤ n) (h1 : n ≤ 9223372036854775807) (ht : PowTab w) :
    Calls Tryd.prog 3 #[.int .i64 n] w fun e w' => e = .returned (.bool true) ∧ Below w.heap.size w w' := by
  by_cases hn : n < 0
  · obtain ⟨u, rfl⟩ : ∃ u : Nat, n = -(u : Int) := ⟨n.natAbs, by omega⟩
    exact texts_neg u w (by omega) (by omega) ht
  · obtain ⟨u, rfl⟩ : ∃ u : Nat, n = (u : Int) := ⟨n.toNat, by omega⟩
    by_cases h : u ≤ 9007199254740991
    · exact texts_ok u w h ht
    · exact texts_great u w (by omega) (by omega) ht

end Go.Proofs.YtpnkdcakhjejnaaDoor

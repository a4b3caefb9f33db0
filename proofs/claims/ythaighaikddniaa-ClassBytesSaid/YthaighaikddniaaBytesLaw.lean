/-
  The law ClassBytes returns true of every byte. No condition.
-/
import Derived.Test.YthaighaikddniaaClass3
namespace Go.Proofs.Ythaighaikddniaa
open Go.RowKit

set_option maxHeartbeats 1000000 in
theorem classBytes_digit (b : UInt8) (w : World) (h : 0 ≤ hexB b) :
    Calls Try.prog 3 #[.int .u8 (b.toNat : Int)] w fun e w' => e = .returned (.bool true) ∧ Below w.heap.size w w' := by
  have hv : hexV b = .tuple #[.int .i64 (hexB b), .bool true] := by unfold hexV; rw [if_pos h]
  have HX : Hid (∀ W, Calls Try.prog 6 #[.int .u8 (b.toNat : Int)] W fun e w' => e = .returned (.tuple #[.int .i64 (hexB b), .bool true]) ∧ W = w') := fun W => by
    have := hex_any b W
    rwa [hv] at this
  have HR : Hid (∀ W, Calls Try.prog 7 #[.int .u8 (b.toNat : Int)] W fun e w' => e = .returned (.int .i64 (hexB b)) ∧ W = w') := fun W => refHex_any b W
  have hd : decide ((0 : Int) ≤ hexB b) = true := by simpa using h
  clear hv h
  generalize hexB b = x at *
  go_enter Try.func3, Try.ntmps3
  go_wp2_with (first
    | (go_at_call 6; refine (HX.out _).mono ?_; rintro e w1 ⟨rfl, rfl⟩)
    | (go_at_call 7; refine (HR.out _).mono ?_; rintro e w1 ⟨rfl, rfl⟩)
    | (go_at_call 8; refine (token_any b _).mono ?_; rintro e w1 ⟨rfl, rfl⟩)
    | (go_at_call 9; refine (refToken_any b _).mono ?_; rintro e w1 ⟨rfl, rfl⟩)
    | (go_at_call 10; refine (quoted_any b _).mono ?_; rintro e w1 ⟨rfl, rfl⟩)
    | (go_at_call 11; refine (refQuoted_any b _).mono ?_; rintro e w1 ⟨rfl, rfl⟩)
    | (go_at_call 12; refine (white_any b _).mono ?_; rintro e w1 ⟨rfl, rfl⟩)
    | (go_at_call 13; refine (refWhite_any b _).mono ?_; rintro e w1 ⟨rfl, rfl⟩)
    | (go_at_call 14; refine (tab_any b _).mono ?_; rintro e w1 ⟨rfl, rfl⟩)
    | (go_at_call 15; refine (refTab_any b _).mono ?_; rintro e w1 ⟨rfl, rfl⟩)
    | (go_at_call 16; refine (digit_any b _).mono ?_; rintro e w1 ⟨rfl, rfl⟩)
    | (go_at_call 17; refine (refDigit_any b _).mono ?_; rintro e w1 ⟨rfl, rfl⟩)
    | (go_at_call 18; refine (letter_any b _).mono ?_; rintro e w1 ⟨rfl, rfl⟩)
    | (go_at_call 19; refine (refLetter_any b _).mono ?_; rintro e w1 ⟨rfl, rfl⟩)
    | (go_at_call 20; refine (lives_any _).mono ?_; rintro e w2 ⟨rfl, hb2⟩))
  go_ret
  exact ⟨rfl, hb2⟩

set_option maxHeartbeats 1000000 in
theorem classBytes_none (b : UInt8) (w : World) (h : ¬ 0 ≤ hexB b) :
    Calls Try.prog 3 #[.int .u8 (b.toNat : Int)] w fun e w' => e = .returned (.bool true) ∧ Below w.heap.size w w' := by
  have hv : hexV b = .tuple #[.int .i64 0, .bool false] := by unfold hexV; rw [if_neg h]
  have HX : Hid (∀ W, Calls Try.prog 6 #[.int .u8 (b.toNat : Int)] W fun e w' => e = .returned (.tuple #[.int .i64 0, .bool false]) ∧ W = w') := fun W => by
    have := hex_any b W
    rwa [hv] at this
  have HR : Hid (∀ W, Calls Try.prog 7 #[.int .u8 (b.toNat : Int)] W fun e w' => e = .returned (.int .i64 (hexB b)) ∧ W = w') := fun W => refHex_any b W
  have hd : decide ((0 : Int) ≤ hexB b) = false := by simpa using h
  clear hv h
  generalize hexB b = x at *
  go_enter Try.func3, Try.ntmps3
  go_wp2_with (first
    | (go_at_call 6; refine (HX.out _).mono ?_; rintro e w1 ⟨rfl, rfl⟩)
    | (go_at_call 7; refine (HR.out _).mono ?_; rintro e w1 ⟨rfl, rfl⟩)
    | (go_at_call 8; refine (token_any b _).mono ?_; rintro e w1 ⟨rfl, rfl⟩)
    | (go_at_call 9; refine (refToken_any b _).mono ?_; rintro e w1 ⟨rfl, rfl⟩)
    | (go_at_call 10; refine (quoted_any b _).mono ?_; rintro e w1 ⟨rfl, rfl⟩)
    | (go_at_call 11; refine (refQuoted_any b _).mono ?_; rintro e w1 ⟨rfl, rfl⟩)
    | (go_at_call 12; refine (white_any b _).mono ?_; rintro e w1 ⟨rfl, rfl⟩)
    | (go_at_call 13; refine (refWhite_any b _).mono ?_; rintro e w1 ⟨rfl, rfl⟩)
    | (go_at_call 14; refine (tab_any b _).mono ?_; rintro e w1 ⟨rfl, rfl⟩)
    | (go_at_call 15; refine (refTab_any b _).mono ?_; rintro e w1 ⟨rfl, rfl⟩)
    | (go_at_call 16; refine (digit_any b _).mono ?_; rintro e w1 ⟨rfl, rfl⟩)
    | (go_at_call 17; refine (refDigit_any b _).mono ?_; rintro e w1 ⟨rfl, rfl⟩)
    | (go_at_call 18; refine (letter_any b _).mono ?_; rintro e w1 ⟨rfl, rfl⟩)
    | (go_at_call 19; refine (refLetter_any b _).mono ?_; rintro e w1 ⟨rfl, rfl⟩)
    | (go_at_call 20; refine (lives_any _).mono ?_; rintro e w2 ⟨rfl, hb2⟩))
  go_ret
  exact ⟨rfl, hb2⟩

theorem classBytes_any (b : UInt8) (w : World) :
    Calls Try.prog 3 #[.int .u8 (b.toNat : Int)] w fun e w' => e = .returned (.bool true) ∧ Below w.heap.size w w' := by
  by_cases h : 0 ≤ hexB b
  · exact classBytes_digit b w h
  · exact classBytes_none b w h

/-- A number that can be read as a byte is one's. -/
theorem byte_of {n : Int} (h : (Lit.int .u8 n).wf = true) : ∃ b : UInt8, n = (b.toNat : Int) := by
  have h' : 0 ≤ n ∧ n < 256 := by
    have e1 : IntKind.u8.min = 0 := by kernel_rfl
    have e2 : IntKind.u8.max = 255 := by kernel_rfl
    simp [Lit.wf, e1, e2] at h
    omega
  refine ⟨UInt8.ofNat n.toNat, ?_⟩
  rw [UInt8.toNat_ofNat']
  omega

end Go.Proofs.Ythaighaikddniaa

/-
  What Strict and Prefix of layer 5 answer, and the document's Parse and Run. Condition: the text is as long as a length can be.
-/
import Derived.Test.YthiclminkbnibaaDoorDec
namespace Go.Proofs.YthiclminkbnibaaDoor
open Go.RowKit

/-- What is so behind Prefix's loop. -/
theorem number_head (s : ByteArray) (hs : s.size ≤ 9223372036854775807) : Hid (∀ k, k = runD s → ∀ W, Calls Tryd.prog 72 #[.string (s.extract 0 k)] W fun e w' => e = .returned (numV s k) ∧ W = w') := fun k hk W => by
  subst hk
  have hle := runD_le s
  have := number_any (s.extract 0 (runD s)) W (head_digits s) (by simp; omega)
  rwa [numV_head s hle] at this
theorem preV_yes {s : ByteArray} {k : Nat} (hk : k = runD s) (h : numK s k ≤ 9007199254740991) : preV s = .tuple #[.int .i64 (numK s k : Nat), .int .i64 (k : Nat)] := by subst hk; unfold preV; rw [if_pos h]
theorem preV_no {s : ByteArray} {k : Nat} (hk : k = runD s) (h : ¬ numK s k ≤ 9007199254740991) : preV s = .tuple #[.int .i64 9007199254740991, .int .i64 (k : Nat)] := by subst hk; unfold preV; rw [if_neg h]

set_option maxHeartbeats 2000000 in
theorem prefix_any (s : ByteArray) (w : World) (hs : s.size ≤ 9223372036854775807) :
    Calls Tryd.prog 51 #[.string s] w fun e w' => e = .returned (preV s) ∧ w = w' := by
  have HH := number_head s hs
  go_enter Tryd.func51, Tryd.ntmps51
  go_wp2
  go_loop [4] (fun i => ∃ k : Nat, k ≤ s.size ∧ i = .int .i64 k ∧ scan digB s k = runD s) (fun i => s.size - (intOf i).toNat)
  case atStart => exact ⟨0, by omega, rfl, rfl⟩
  case round =>
    obtain ⟨k, hk, rfl, hb⟩ := hrel
    have HB := Lib.hid hb
    clear hb
    by_cases hlt : k < s.size
    · have e1 : decide ((k : Int) < (s.size : Int)) = true := by simpa using hlt
      have HL := Lib.hid (fun W => digit_any s[k] W)
      cases hb : digB s[k]
      · have hT : k = runD s := by rw [← HB.out, scan_stop hlt hb]
        have HN := Lib.hid (HH.out k hT)
        have HL2 : Hid (∀ W, Calls Tryd.prog 61 #[.int .u8 (s[k].toNat : Int)] W fun e w' => e = .returned (.bool false) ∧ W = w') := fun W => by have := HL.out W; rwa [hb] at this
        by_cases h1 : numK s k ≤ 9007199254740991
        · have HV := Lib.hid (preV_yes hT h1)
          rw [numV_yes h1] at HN
          clear HL hb HH hT HB h1
          generalize numK s k = n at *
          go_wp2_with (first
            | (go_at_call 61; refine (HL2.out _).mono ?_; rintro e w' ⟨rfl, rfl⟩)
            | (go_at_call 72; refine (HN.out _).mono ?_; rintro e w1 ⟨rfl, rfl⟩))
          go_ret2
          exact ⟨by rw [HV.out]; first | done | rfl, rfl⟩
        · have HV := Lib.hid (preV_no hT h1)
          rw [numV_no (by omega)] at HN
          clear HL hb HH hT HB h1
          go_wp2_with (first
            | (go_at_call 61; refine (HL2.out _).mono ?_; rintro e w' ⟨rfl, rfl⟩)
            | (go_at_call 72; refine (HN.out _).mono ?_; rintro e w1 ⟨rfl, rfl⟩))
          go_ret2
          exact ⟨by rw [HV.out]; first | done | rfl, rfl⟩
      · have HE : Hid (scan digB s (k + 1) = scan digB s k) := scan_step hlt hb
        have HL2 : Hid (∀ W, Calls Tryd.prog 61 #[.int .u8 (s[k].toNat : Int)] W fun e w' => e = .returned (.bool true) ∧ W = w') := fun W => by have := HL.out W; rwa [hb] at this
        clear HL hb
        go_wp2_with (go_at_call 61; refine (HL2.out _).mono ?_; rintro e w' ⟨rfl, rfl⟩)
        go_round
        case rel => exact ⟨k + 1, by omega, by go_num, HE.out.trans HB.out⟩
        case measure => simp [intOf]; omega
    · have e1 : decide ((k : Int) < (s.size : Int)) = false := by simp; omega
      have e2 : decide (k < s.size) = false := by simp; omega
      have hT : k = runD s := by rw [← HB.out, scan_end (by omega)]
      have HN := Lib.hid (HH.out k hT)
      clear hlt
      by_cases h1 : numK s k ≤ 9007199254740991
      · have HV := Lib.hid (preV_yes hT h1)
        rw [numV_yes h1] at HN
        clear HH hT HB h1
        generalize numK s k = n at *
        go_wp2_with (go_at_call 72; refine (HN.out _).mono ?_; rintro e w1 ⟨rfl, rfl⟩)
        go_ret2
        exact ⟨by rw [HV.out]; first | done | rfl, rfl⟩
      · have HV := Lib.hid (preV_no hT h1)
        rw [numV_no (by omega)] at HN
        clear HH hT HB h1
        go_wp2_with (go_at_call 72; refine (HN.out _).mono ?_; rintro e w1 ⟨rfl, rfl⟩)
        go_ret2
        exact ⟨by rw [HV.out]; first | done | rfl, rfl⟩

end Go.Proofs.YthiclminkbnibaaDoor

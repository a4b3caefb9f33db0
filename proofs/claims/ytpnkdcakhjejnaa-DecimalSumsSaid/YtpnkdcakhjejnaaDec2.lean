/-
  What Strict and Prefix of layer 5 answer, and the document's Parse and Run. Condition: the text is as long as a length can be.
-/
import Derived.Test.YtpnkdcakhjejnaaDec
namespace Go.Proofs.Ytpnkdcakhjejnaa
open Go.RowKit

set_option maxHeartbeats 1000000 in
theorem strict_any (s : ByteArray) (w : World) (hs : s.size ≤ 9223372036854775807) :
    Calls Try.prog 7 #[.string s] w fun e w' => e = .returned (strV s) ∧ Below w.heap.size w w' := by
  have HP : Hid (∀ W, Calls Try.prog 6 #[.string s] W fun e w' => e = .returned (.tuple #[.int .i64 (parN s), .int .i64 (parE s)]) ∧ Below W.heap.size W w') := fun W => parse_any s W hs
  by_cases h1 : 1 < s.size
  · have hn := nouB_at h1
    have h0 : 0 < s.size := by omega
    have e1 : decide ((1 : Int) < (s.size : Int)) = true := by simp; omega
    cases hb : ((s[0].toNat : Int) == 48)
    · have HV : Hid (strV s = .tuple #[.int .i64 (parN s), .int .i64 (parE s)]) := by unfold strV; rw [hn, hb]; rfl
      clear hn
      generalize parN s = a at *
      generalize parE s = b at *
      go_enter Try.func7, Try.ntmps7
      go_wp2_with (go_at_call 6; refine (HP.out _).mono ?_; rintro e w1 ⟨rfl, hb⟩)
      go_ret2
      exact ⟨by rw [HV.out]; first | done | rfl, hb⟩
    · have HV : Hid (strV s = .tuple #[.int .i64 0, .int .i64 2]) := by unfold strV; rw [hn, hb]; rfl
      clear hn
      go_enter Try.func7, Try.ntmps7
      go_wp2
      go_ret2
      exact ⟨by rw [HV.out]; first | done | rfl, Below.refl _ _⟩
  · have HV : Hid (strV s = .tuple #[.int .i64 (parN s), .int .i64 (parE s)]) := by unfold strV; rw [nouB_short h1]; rfl
    have e1 : decide ((1 : Int) < (s.size : Int)) = false := by simp; omega
    generalize parN s = a at *
    generalize parE s = b at *
    go_enter Try.func7, Try.ntmps7
    go_wp2_with (go_at_call 6; refine (HP.out _).mono ?_; rintro e w1 ⟨rfl, hb⟩)
    go_ret2
    exact ⟨by rw [HV.out]; first | done | rfl, hb⟩

set_option maxHeartbeats 1000000 in
theorem refRun_any (s : ByteArray) (w : World) (hs : s.size ≤ 9223372036854775807) :
    Calls Try.prog 9 #[.string s] w fun e w' => e = .returned (.int .i64 (runD s : Nat)) ∧ w = w' := by
  go_enter Try.func9, Try.ntmps9
  go_wp2
  go_loop [3] (fun i => ∃ k : Nat, k ≤ s.size ∧ i = .int .i64 k ∧ scan digB s k = runD s) (fun i => s.size - (intOf i).toNat)
  case atStart => exact ⟨0, by omega, rfl, rfl⟩
  case round =>
    obtain ⟨k, hk, rfl, hb⟩ := hrel
    have HB := Lib.hid hb
    clear hb
    by_cases hlt : k < s.size
    · have HL := Lib.hid (fun W => refDigit_any s[k] W)
      cases hb : digB s[k]
      · have HT := Lib.hid (show runD s = k from by rw [← HB.out, scan_stop hlt hb])
        have HL2 : Hid (∀ W, Calls Try.prog 20 #[.int .u8 (s[k].toNat : Int)] W fun e w' => e = .returned (.bool false) ∧ W = w') := fun W => by have := HL.out W; rwa [hb] at this
        clear HL hb
        go_wp2_with (go_at_call 20; refine (HL2.out _).mono ?_; rintro e w' ⟨rfl, rfl⟩)
        go_ret
        exact ⟨by rw [HT.out]; rfl, rfl⟩
      · have HE : Hid (scan digB s (k + 1) = scan digB s k) := scan_step hlt hb
        have HL2 : Hid (∀ W, Calls Try.prog 20 #[.int .u8 (s[k].toNat : Int)] W fun e w' => e = .returned (.bool true) ∧ W = w') := fun W => by have := HL.out W; rwa [hb] at this
        clear HL hb
        go_wp2_with (go_at_call 20; refine (HL2.out _).mono ?_; rintro e w' ⟨rfl, rfl⟩)
        go_round
        case rel => exact ⟨k + 1, by omega, by go_num, HE.out.trans HB.out⟩
        case measure => simp [intOf]; omega
    · obtain rfl : k = s.size := by omega
      have HT := Lib.hid (show runD s = s.size from by rw [← HB.out, scan_end rfl])
      go_wp2
      go_ret
      exact ⟨by rw [HT.out]; rfl, rfl⟩

/-- What is so behind Prefix's loop. -/
theorem number_head (s : ByteArray) (hs : s.size ≤ 9223372036854775807) : Hid (∀ k, k = runD s → ∀ W, Calls Try.prog 19 #[.string (s.extract 0 k)] W fun e w' => e = .returned (numV s k) ∧ W = w') := fun k hk W => by
  subst hk
  have hle := runD_le s
  have := number_any (s.extract 0 (runD s)) W (head_digits s) (by simp; omega)
  rwa [numV_head s hle] at this
theorem preV_yes {s : ByteArray} {k : Nat} (hk : k = runD s) (h : numK s k ≤ 9007199254740991) : preV s = .tuple #[.int .i64 (numK s k : Nat), .int .i64 (k : Nat)] := by subst hk; unfold preV; rw [if_pos h]
theorem preV_no {s : ByteArray} {k : Nat} (hk : k = runD s) (h : ¬ numK s k ≤ 9007199254740991) : preV s = .tuple #[.int .i64 9007199254740991, .int .i64 (k : Nat)] := by subst hk; unfold preV; rw [if_neg h]

set_option maxHeartbeats 2000000 in
theorem prefix_any (s : ByteArray) (w : World) (hs : s.size ≤ 9223372036854775807) :
    Calls Try.prog 10 #[.string s] w fun e w' => e = .returned (preV s) ∧ w = w' := by
  have HH := number_head s hs
  go_enter Try.func10, Try.ntmps10
  go_wp2
  go_loop [4] (fun i => ∃ k : Nat, k ≤ s.size ∧ i = .int .i64 k ∧ scan digB s k = runD s) (fun i => s.size - (intOf i).toNat)
  case atStart => exact ⟨0, by omega, rfl, rfl⟩
  case round =>
    obtain ⟨k, hk, rfl, hb⟩ := hrel
    have HB := Lib.hid hb
    clear hb
    by_cases hlt : k < s.size
    · have e1 : decide ((k : Int) < (s.size : Int)) = true := by simpa using hlt
      have HL := Lib.hid (fun W => digit_any s[k] W)
      cases hb : digB s[k]
      · have hT : k = runD s := by rw [← HB.out, scan_stop hlt hb]
        have HN := Lib.hid (HH.out k hT)
        have HL2 : Hid (∀ W, Calls Try.prog 18 #[.int .u8 (s[k].toNat : Int)] W fun e w' => e = .returned (.bool false) ∧ W = w') := fun W => by have := HL.out W; rwa [hb] at this
        by_cases h1 : numK s k ≤ 9007199254740991
        · have HV := Lib.hid (preV_yes hT h1)
          rw [numV_yes h1] at HN
          clear HL hb HH hT HB h1
          generalize numK s k = n at *
          go_wp2_with (first
            | (go_at_call 18; refine (HL2.out _).mono ?_; rintro e w' ⟨rfl, rfl⟩)
            | (go_at_call 19; refine (HN.out _).mono ?_; rintro e w1 ⟨rfl, rfl⟩))
          go_ret2
          exact ⟨by rw [HV.out]; first | done | rfl, rfl⟩
        · have HV := Lib.hid (preV_no hT h1)
          rw [numV_no (by omega)] at HN
          clear HL hb HH hT HB h1
          go_wp2_with (first
            | (go_at_call 18; refine (HL2.out _).mono ?_; rintro e w' ⟨rfl, rfl⟩)
            | (go_at_call 19; refine (HN.out _).mono ?_; rintro e w1 ⟨rfl, rfl⟩))
          go_ret2
          exact ⟨by rw [HV.out]; first | done | rfl, rfl⟩
      · have HE : Hid (scan digB s (k + 1) = scan digB s k) := scan_step hlt hb
        have HL2 : Hid (∀ W, Calls Try.prog 18 #[.int .u8 (s[k].toNat : Int)] W fun e w' => e = .returned (.bool true) ∧ W = w') := fun W => by have := HL.out W; rwa [hb] at this
        clear HL hb
        go_wp2_with (go_at_call 18; refine (HL2.out _).mono ?_; rintro e w' ⟨rfl, rfl⟩)
        go_round
        case rel => exact ⟨k + 1, by omega, by go_num, HE.out.trans HB.out⟩
        case measure => simp [intOf]; omega
    · have e1 : decide ((k : Int) < (s.size : Int)) = false := by simp; omega
      have e2 : decide (k < s.size) = false := by simp; omega
      have hT : k = runD s := by rw [← HB.out, scan_end (by omega)]
      have HN := Lib.hid (HH.out k hT)
      clear hlt
      by_cases h1 : numK s k ≤ 9007199254740991
      · have HV := Lib.hid (preV_yes hT h1)
        rw [numV_yes h1] at HN
        clear HH hT HB h1
        generalize numK s k = n at *
        go_wp2_with (go_at_call 19; refine (HN.out _).mono ?_; rintro e w1 ⟨rfl, rfl⟩)
        go_ret2
        exact ⟨by rw [HV.out]; first | done | rfl, rfl⟩
      · have HV := Lib.hid (preV_no hT h1)
        rw [numV_no (by omega)] at HN
        clear HH hT HB h1
        go_wp2_with (go_at_call 19; refine (HN.out _).mono ?_; rintro e w1 ⟨rfl, rfl⟩)
        go_ret2
        exact ⟨by rw [HV.out]; first | done | rfl, rfl⟩

end Go.Proofs.Ytpnkdcakhjejnaa

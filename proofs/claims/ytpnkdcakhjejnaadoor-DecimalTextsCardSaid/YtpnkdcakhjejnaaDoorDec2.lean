/-
  What Strict and Prefix of layer 5 answer, and the document's Parse and Run. Condition: the text is as long as a length can be.
-/
import Derived.Test.YtpnkdcakhjejnaaDoorDec
namespace Go.Proofs.YtpnkdcakhjejnaaDoor
open Go.RowKit

set_option maxHeartbeats 1000000 in
theorem strict_any (s : ByteArray) (w : World) (hs : s.size ≤ 9223372036854775807) :
    Calls Tryd.prog 6 #[.string s] w fun e w' => e = .returned (strV s) ∧ Below w.heap.size w w' := by
  have HP : Hid (∀ W, Calls Tryd.prog 10 #[.string s] W fun e w' => e = .returned (.tuple #[.int .i64 (parN s), .int .i64 (parE s)]) ∧ Below W.heap.size W w') := fun W => parse_any s W hs
  by_cases h1 : 1 < s.size
  · have hn := nouB_at h1
    have h0 : 0 < s.size := by omega
    have e1 : decide ((1 : Int) < (s.size : Int)) = true := by simp; omega
    cases hb : ((s[0].toNat : Int) == 48)
    · have HV : Hid (strV s = .tuple #[.int .i64 (parN s), .int .i64 (parE s)]) := by unfold strV; rw [hn, hb]; rfl
      clear hn
      generalize parN s = a at *
      generalize parE s = b at *
      go_enter Tryd.func6, Tryd.ntmps6
      go_wp2_with (go_at_call 10; refine (HP.out _).mono ?_; rintro e w1 ⟨rfl, hb⟩)
      go_ret2
      exact ⟨by rw [HV.out]; first | done | rfl, hb⟩
    · have HV : Hid (strV s = .tuple #[.int .i64 0, .int .i64 2]) := by unfold strV; rw [hn, hb]; rfl
      clear hn
      go_enter Tryd.func6, Tryd.ntmps6
      go_wp2
      go_ret2
      exact ⟨by rw [HV.out]; first | done | rfl, Below.refl _ _⟩
  · have HV : Hid (strV s = .tuple #[.int .i64 (parN s), .int .i64 (parE s)]) := by unfold strV; rw [nouB_short h1]; rfl
    have e1 : decide ((1 : Int) < (s.size : Int)) = false := by simp; omega
    generalize parN s = a at *
    generalize parE s = b at *
    go_enter Tryd.func6, Tryd.ntmps6
    go_wp2_with (go_at_call 10; refine (HP.out _).mono ?_; rintro e w1 ⟨rfl, hb⟩)
    go_ret2
    exact ⟨by rw [HV.out]; first | done | rfl, hb⟩

/-- What is so behind Prefix's loop. -/
theorem number_head (s : ByteArray) (hs : s.size ≤ 9223372036854775807) : Hid (∀ k, k = runD s → ∀ W, Calls Tryd.prog 14 #[.string (s.extract 0 k)] W fun e w' => e = .returned (numV s k) ∧ W = w') := fun k hk W => by
  subst hk
  have hle := runD_le s
  have := number_any (s.extract 0 (runD s)) W (head_digits s) (by simp; omega)
  rwa [numV_head s hle] at this
theorem preV_yes {s : ByteArray} {k : Nat} (hk : k = runD s) (h : numK s k ≤ 9007199254740991) : preV s = .tuple #[.int .i64 (numK s k : Nat), .int .i64 (k : Nat)] := by subst hk; unfold preV; rw [if_pos h]
theorem preV_no {s : ByteArray} {k : Nat} (hk : k = runD s) (h : ¬ numK s k ≤ 9007199254740991) : preV s = .tuple #[.int .i64 9007199254740991, .int .i64 (k : Nat)] := by subst hk; unfold preV; rw [if_neg h]

end Go.Proofs.YtpnkdcakhjejnaaDoor

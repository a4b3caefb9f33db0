/-
  The law BinaryTexts. Condition: lengths as they can be.
-/
import Derived.Test.YtlfbbphkbpajoaaEd
import Derived.Test.YtlfbbphkbpajoaaEs
import Derived.Test.YtlfbbphkbpajoaaCls
namespace Go.Proofs.Ytlfbbphkbpajoaa
open Go.RowKit

theorem kind_norm (x : Nat) : kindB (normB x) = kindB x := by
  cases h : nanB x
  · rw [normB_num h]
  · rw [normB_nan h]
    unfold kindB
    rw [if_pos h]
    exact if_pos (by kernel_rfl)
theorem bits_is {x z : Nat} (hx : x < 18446744073709551616) (h : normB x = z) (w : World) :
    Calls Try.prog 15 #[.float .f64 x] w fun e w' => e = .returned (.int .u64 (z : Nat)) ∧ ∃ n, w' = w.drewN n := h ▸ rbits_any x hx w
theorem kind_is {x z : Nat} {k : Int} (hx : x < 18446744073709551616) (h : normB x = z) (hk : kindB z = k) (w : World) :
    Calls Try.prog 21 #[.float .f64 x] w fun e w' => e = .returned (.int .i64 k) ∧ ∃ n, w' = w.drewN n := by
  rw [← hk, ← h, kind_norm]
  exact rkind_any x hx w

set_option maxHeartbeats 4000000 in
theorem binaryTexts_any (s : ByteArray) (w : World) (hs : s.size ≤ 9223372036854775807) :
    Calls Try.prog 4 #[.string s] w fun e w' => e = .returned (.bool true) ∧ Below w.heap.size w w' := by
  have HCS : Hid (∀ W, Calls Try.prog 9 #[.string s, .int .i64 200] W fun e w' => e = .returned (.string (cutB s 200)) ∧ W = w') := Lib.hid fun W => cut_any s 200 W hs
  have hu := cutB_size s 200
  generalize cutB s 200 = u at *
  have HF := Lib.hid (fun W => first_any u W (by omega))
  have HRF := Lib.hid (fun W => rfirst_any u W (by omega))
  have HC := Lib.hid (fun W => count19_any u W (by omega))
  have HRC := Lib.hid (fun W => rcount19_any u W (by omega))
  have HS := Lib.hid (fun W => share_any u W (by omega))
  have HRR := Lib.hid (fun W => rratio_any (binN u u.size : Nat) (u.size : Nat) W)
  have HM := Lib.hid (fun W => mark_any u W (by omega))
  have HRM := Lib.hid (fun W => rmark_any u W (by omega))
  have HU := Lib.hid (fun W => rule_any u W (by omega))
  have HRU := Lib.hid (fun W => rrule_any u W (by omega))
  have HLV := Lib.hid lives19_any
  have hle := binN_le u u.size
  obtain ⟨k, hk⟩ : ∃ k, kindB (normB (quotB (binN u u.size : Nat) (u.size : Nat))) = k := ⟨_, rfl⟩
  have hk4 : binF u < u.size → k = 4 := fun h => by
    rw [← hk]
    exact share_some (binN_pos h) hle hu
  have ht : ¬ binF u < u.size → rulS u = txtS := fun h => if_neg (fun c => h c.1)
  generalize normB (quotB (binN u u.size : Nat) (u.size : Nat)) = z at *
  generalize binN u u.size = n at *
  have HB := Lib.hid (fun (x : Nat) (hx : x < 18446744073709551616) (h : normB x = z) (W : World) => bits_is hx h W)
  have HK := Lib.hid (fun (x : Nat) (hx : x < 18446744073709551616) (h : normB x = z) (W : World) => kind_is hx h hk W)
  clear hk
  by_cases hf : binF u < u.size
  · obtain rfl := hk4 hf
    have e1 : fstN u = binF u := if_pos hf
    have e2 : fstI u = (binF u : Nat) := if_pos hf
    rw [e1, decide_eq_true hf] at HF
    rw [e2] at HRF
    clear e1 e2 ht hk4 hf
    generalize binF u = f at *
    generalize mrkN u = m at *
    generalize rulS u = v at *
    go_enter Try.func4, Try.ntmps4
    go_wp2_with (first
      | (go_at_call 9; (with_reducible refine (HCS.out _).mono ?_); rintro e w1 ⟨rfl, rfl⟩)
      | (go_at_call 10; (with_reducible refine (HF.out _).mono ?_); rintro e w1 ⟨rfl, rfl⟩)
      | (go_at_call 11; (with_reducible refine (HRF.out _).mono ?_); rintro e w1 ⟨rfl, rfl⟩)
      | (go_at_call 14; (with_reducible refine (HC.out _).mono ?_); rintro e w1 ⟨rfl, rfl⟩)
      | (go_at_call 12; (with_reducible refine (HRC.out _).mono ?_); rintro e w1 ⟨rfl, rfl⟩)
      | (go_at_call 13; (with_reducible refine (HS.out _).mono ?_); rintro e w1 ⟨r, rfl, hr, hq, n1, rfl⟩)
      | (go_at_call 16; (with_reducible refine (HRR.out _).mono ?_); rintro e w1 ⟨r2, rfl, hr2, hq2, n3, rfl⟩)
      | (go_at_call 15; (with_reducible refine (HB.out _ hr hq _).mono ?_); rintro e w1 ⟨rfl, n2, rfl⟩)
      | (go_at_call 15; (with_reducible refine (HB.out _ hr2 hq2 _).mono ?_); rintro e w1 ⟨rfl, n4, rfl⟩)
      | (go_at_call 17; (with_reducible refine (HU.out _).mono ?_); rintro e w1 ⟨rfl, rfl⟩)
      | (go_at_call 20; (with_reducible refine (HRU.out _).mono ?_); rintro e w1 ⟨rfl, rfl⟩)
      | (go_at_call 18; (with_reducible refine (HM.out _).mono ?_); rintro e w1 ⟨rfl, rfl⟩)
      | (go_at_call 19; (with_reducible refine (HRM.out _).mono ?_); rintro e w1 ⟨rfl, rfl⟩)
      | (go_at_call 21; (with_reducible refine (HK.out _ hr hq _).mono ?_); rintro e w1 ⟨rfl, n5, rfl⟩)
      | (go_at_call 8; (with_reducible refine (HLV.out _).mono ?_); rintro e w1 ⟨rfl, rfl⟩))
    go_ret
    exact ⟨rfl, Below.drewN' (Below.refl _ _) _⟩
  · have e1 : fstN u = 0 := if_neg hf
    have e2 : fstI u = -1 := if_neg hf
    have e3 := ht hf
    rw [e1, decide_eq_false hf] at HF
    rw [e2] at HRF
    rw [e3] at HU HRU
    clear e1 e2 e3 ht hk4 hf
    generalize mrkN u = m at *
    go_enter Try.func4, Try.ntmps4
    go_wp2_with (first
      | (go_at_call 9; (with_reducible refine (HCS.out _).mono ?_); rintro e w1 ⟨rfl, rfl⟩)
      | (go_at_call 10; (with_reducible refine (HF.out _).mono ?_); rintro e w1 ⟨rfl, rfl⟩)
      | (go_at_call 11; (with_reducible refine (HRF.out _).mono ?_); rintro e w1 ⟨rfl, rfl⟩)
      | (go_at_call 14; (with_reducible refine (HC.out _).mono ?_); rintro e w1 ⟨rfl, rfl⟩)
      | (go_at_call 12; (with_reducible refine (HRC.out _).mono ?_); rintro e w1 ⟨rfl, rfl⟩)
      | (go_at_call 13; (with_reducible refine (HS.out _).mono ?_); rintro e w1 ⟨r, rfl, hr, hq, n1, rfl⟩)
      | (go_at_call 16; (with_reducible refine (HRR.out _).mono ?_); rintro e w1 ⟨r2, rfl, hr2, hq2, n3, rfl⟩)
      | (go_at_call 15; (with_reducible refine (HB.out _ hr hq _).mono ?_); rintro e w1 ⟨rfl, n2, rfl⟩)
      | (go_at_call 15; (with_reducible refine (HB.out _ hr2 hq2 _).mono ?_); rintro e w1 ⟨rfl, n4, rfl⟩)
      | (go_at_call 17; (with_reducible refine (HU.out _).mono ?_); rintro e w1 ⟨rfl, rfl⟩)
      | (go_at_call 20; (with_reducible refine (HRU.out _).mono ?_); rintro e w1 ⟨rfl, rfl⟩)
      | (go_at_call 18; (with_reducible refine (HM.out _).mono ?_); rintro e w1 ⟨rfl, rfl⟩)
      | (go_at_call 19; (with_reducible refine (HRM.out _).mono ?_); rintro e w1 ⟨rfl, rfl⟩)
      | (go_at_call 21; (with_reducible refine (HK.out _ hr hq _).mono ?_); rintro e w1 ⟨rfl, n5, rfl⟩)
      | (go_at_call 8; (with_reducible refine (HLV.out _).mono ?_); rintro e w1 ⟨rfl, rfl⟩))
    all_goals
      go_ret
      exact ⟨rfl, Below.drewN' (Below.refl _ _) _⟩

end Go.Proofs.Ytlfbbphkbpajoaa

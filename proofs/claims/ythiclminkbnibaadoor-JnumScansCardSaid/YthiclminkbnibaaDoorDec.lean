/-
  What number, Parse, Strict and Prefix of layer 5 answer. Condition: the text is as long as a length can be.
-/
import Derived.Test.YthiclminkbnibaaDoorNum
import Derived.Test.YthiclminkbnibaaDoorCountD
import Derived.Lib.Strings
namespace Go.Proofs.YthiclminkbnibaaDoor
open Go.RowKit

set_option maxHeartbeats 1000000 in
theorem number_any (s : ByteArray) (w : World) (hd : ∀ j (hj : j < s.size), digB s[j] = true) (hs : s.size ≤ 9223372036854775807) :
    Calls Tryd.prog 72 #[.string s] w fun e w' => e = .returned (numV s s.size) ∧ w = w' := by
  go_enter Tryd.func72, Tryd.ntmps72
  go_wp2
  go_loop [8, 4] (fun i n => ∃ k : Nat, k ≤ s.size ∧ i = .int .i64 k ∧ n = .int .i64 (numK s k : Nat) ∧ numK s k ≤ 9007199254740991) (fun i _ => s.size - (intOf i).toNat)
  case atStart => exact ⟨0, by omega, rfl, rfl, by rw [numK_zero]; omega⟩
  case round =>
    obtain ⟨k, hk, rfl, rfl, hm⟩ := hrel
    by_cases hlt : k < s.size
    · obtain ⟨g1, g2⟩ := digB_range (hd k hlt)
      have HN := Lib.hid (numK_succ hlt)
      have HM := Lib.hid (numK_mono s (show k + 1 ≤ s.size by omega))
      by_cases hov : numK s (k + 1) ≤ 9007199254740991
      · have HO := Lib.hid hov
        rw [HN.out] at hov
        obtain ⟨a, ha⟩ : ∃ a, a = numK s k := ⟨_, rfl⟩
        rw [← ha] at hm hov HN ⊢
        have HA := Lib.hid ha
        have d1 : decide ((9007199254740991 : Int) < (a : Int) * 10 + ((s[k].toNat : Int) - 48)) = false := by simp; omega
        clear ha hd
        go_wp2
        go_round
        case rel => exact ⟨k + 1, by omega, by go_num, by rw [HN.out]; go_num, HO.out⟩
        case measure => simp [intOf]; omega
      · have HV := Lib.hid (numV_no (s := s) (k := s.size) (by have := HM.out; omega))
        rw [HN.out] at hov
        obtain ⟨a, ha⟩ : ∃ a, a = numK s k := ⟨_, rfl⟩
        rw [← ha] at hm hov HN ⊢
        have d1 : decide ((9007199254740991 : Int) < (a : Int) * 10 + ((s[k].toNat : Int) - 48)) = true := by simp; omega
        clear ha hd
        go_wp2
        go_ret2
        exact ⟨by rw [HV.out]; first | done | rfl, rfl⟩
    · obtain rfl : k = s.size := by omega
      have HV := Lib.hid (numV_yes hm)
      go_wp2
      go_ret2
      exact ⟨by rw [HV.out]; first | done | rfl, rfl⟩

theorem digits_all (s : ByteArray) (hs : s.size ≤ 9223372036854775807) (h : allB digB s = true) : Hid (∀ W, Calls Tryd.prog 72 #[.string s] W fun e w' => e = .returned (numV s s.size) ∧ W = w') :=
  fun W => number_any s W (allB_digits h) hs

set_option maxHeartbeats 1000000 in
theorem parse_any (s : ByteArray) (w : World) (hs : s.size ≤ 9223372036854775807) :
    Calls Tryd.prog 55 #[.string s] w fun e w' => e = .returned (parV s) ∧ Below w.heap.size w w' := by
  by_cases h0 : s.size = 0
  · have HV := Lib.hid (parV_empty h0)
    obtain rfl : s = ⟨#[]⟩ := by
      cases s with | mk d => simp at h0; rw [h0]; rfl
    go_enter Tryd.func55, Tryd.ntmps55
    go_wp2
    go_ret2
    exact ⟨by rw [HV.out]; first | done | rfl, Below.refl _ _⟩
  · have e0 : (s.toList == []) = false := by
      rw [beq_eq_false_iff_ne]
      intro h
      rw [Lib.toList_data] at h
      have := congrArg List.length h
      rw [Array.length_toList] at this
      exact h0 this
    have HA : Hid (∀ W, Calls Tryd.prog 74 #[.string s, .func (.func 61) #[] #[]] W fun e w' => e = .returned (.bool (allB digB s)) ∧ Below W.heap.size W w') := fun W => all_Dig s W hs
    cases ha : allB digB s
    · rw [ha] at HA
      have HV := Lib.hid (parV_form ha)
      clear ha h0
      go_enter Tryd.func55, Tryd.ntmps55
      go_wp2_with (go_at_call 74; refine (HA.out _).mono ?_; rintro e w1 ⟨rfl, hb⟩)
      go_ret2
      exact ⟨by rw [HV.out]; first | done | rfl, hb⟩
    · have HN := digits_all s hs ha
      by_cases h1 : numK s s.size ≤ 9007199254740991
      · have HV := Lib.hid (parV_ok h0 ha h1)
        rw [ha] at HA
        rw [numV_yes h1] at HN
        clear ha h0 h1
        generalize numK s s.size = n at *
        go_enter Tryd.func55, Tryd.ntmps55
        go_wp2_with (first
          | (go_at_call 74; refine (HA.out _).mono ?_; rintro e w1 ⟨rfl, hb⟩)
          | (go_at_call 72; refine (HN.out _).mono ?_; rintro e w1 ⟨rfl, rfl⟩))
        go_ret2
        exact ⟨by rw [HV.out]; first | done | rfl, hb⟩
      · have HV := Lib.hid (parV_range h0 ha (by omega))
        rw [ha] at HA
        rw [numV_no (by omega)] at HN
        clear ha h0 h1
        go_enter Tryd.func55, Tryd.ntmps55
        go_wp2_with (first
          | (go_at_call 74; refine (HA.out _).mono ?_; rintro e w1 ⟨rfl, hb⟩)
          | (go_at_call 72; refine (HN.out _).mono ?_; rintro e w1 ⟨rfl, rfl⟩))
        go_ret2
        exact ⟨by rw [HV.out]; first | done | rfl, hb⟩

end Go.Proofs.YthiclminkbnibaaDoor

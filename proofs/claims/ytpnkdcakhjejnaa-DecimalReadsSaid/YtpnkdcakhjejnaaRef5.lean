/-
  What the document's own Parse answers, and lives of layer 5. Condition: the text is as long as a length can be.
-/
import Derived.Test.YtpnkdcakhjejnaaDec2
namespace Go.Proofs.Ytpnkdcakhjejnaa
open Go.RowKit

set_option maxHeartbeats 2000000 in
theorem refParse_any (s : ByteArray) (w : World) (hs : s.size ≤ 9223372036854775807) :
    Calls Try.prog 8 #[.string s] w fun e w' => e = .returned (parV s) ∧ w = w' := by
  by_cases h0 : s.size = 0
  · have HV := Lib.hid (parV_empty h0)
    obtain rfl : s = ⟨#[]⟩ := by
      cases s with | mk d => simp at h0; rw [h0]; rfl
    go_enter Try.func8, Try.ntmps8
    go_wp2
    refine wp_loop_rounds 1 ?_
    rw [rounds_succ]
    go_wp2
    go_ret2
    exact ⟨by rw [HV.out]; first | done | rfl, rfl⟩
  have e0 : (s.toList == []) = false := by
    rw [beq_eq_false_iff_ne]
    intro h
    rw [Lib.toList_data] at h
    have := congrArg List.length h
    rw [Array.length_toList] at this
    exact h0 this
  go_enter Try.func8, Try.ntmps8
  go_wp2
  go_loop [6, 4, 5] (fun i n o => ∃ (k : Nat) (v : Int), k ≤ s.size ∧ i = .int .i64 k ∧ n = .int .i64 v ∧ (∀ j (hj : j < s.size), j < k → digB s[j] = true) ∧
    (o = .bool false ∧ v = (numK s k : Nat) ∧ numK s k ≤ 9007199254740991 ∨ o = .bool true ∧ 9007199254740991 < numK s k)) (fun i _ _ => s.size - (intOf i).toNat)
  case atStart => exact ⟨0, 0, by omega, rfl, rfl, fun j _ h => absurd h (by omega), .inl ⟨rfl, rfl, by rw [numK_zero]; omega⟩⟩
  case round =>
    obtain ⟨k, v, hk, rfl, rfl, hd, ho⟩ := hrel
    have HD := Lib.hid hd
    clear hd
    by_cases hlt : k < s.size
    · have HL := Lib.hid (fun W => refDigit_any s[k] W)
      cases hb : digB s[k]
      · have HV := Lib.hid (parV_form (s := s) (allB_no hlt hb))
        have HL2 : Hid (∀ W, Calls Try.prog 20 #[.int .u8 (s[k].toNat : Int)] W fun e w' => e = .returned (.bool false) ∧ W = w') := fun W => by have := HL.out W; rwa [hb] at this
        clear HL hb
        rcases ho with ⟨rfl, rfl, _⟩ | ⟨rfl, _⟩ <;>
        · go_wp2_with (go_at_call 20; refine (HL2.out _).mono ?_; rintro e w' ⟨rfl, rfl⟩)
          go_ret2
          exact ⟨by rw [HV.out]; first | done | rfl, rfl⟩
      · obtain ⟨g1, g2⟩ := digB_range hb
        have HN := Lib.hid (numK_succ hlt)
        have HE : Hid (∀ j (hj : j < s.size), j < k + 1 → digB s[j] = true) := fun j hj h => if e : j = k then by subst e; exact hb else HD.out j hj (by omega)
        have HL2 : Hid (∀ W, Calls Try.prog 20 #[.int .u8 (s[k].toNat : Int)] W fun e w' => e = .returned (.bool true) ∧ W = w') := fun W => by have := HL.out W; rwa [hb] at this
        clear HL hb
        rcases ho with ⟨rfl, rfl, hm⟩ | ⟨rfl, hm⟩
        · by_cases hov : numK s (k + 1) ≤ 9007199254740991
          · have HO := Lib.hid hov
            rw [HN.out] at hov
            obtain ⟨a, ha⟩ : ∃ a, a = numK s k := ⟨_, rfl⟩
            rw [← ha] at hm hov HN ⊢
            have d1 : decide ((9007199254740991 : Int) < 10 * (a : Int) + ((s[k].toNat : Int) - 48)) = false := by simp; omega
            clear ha
            go_wp2_with (go_at_call 20; refine (HL2.out _).mono ?_; rintro e w' ⟨rfl, rfl⟩)
            go_round
            case rel => exact ⟨k + 1, _, by omega, by go_num, rfl, HE.out, .inl ⟨rfl, by rw [HN.out]; omega, HO.out⟩⟩
            case measure => simp [intOf]; omega
          · have HO := Lib.hid (show 9007199254740991 < numK s (k + 1) by omega)
            rw [HN.out] at hov
            obtain ⟨a, ha⟩ : ∃ a, a = numK s k := ⟨_, rfl⟩
            rw [← ha] at hm hov HN ⊢
            have d1 : decide ((9007199254740991 : Int) < 10 * (a : Int) + ((s[k].toNat : Int) - 48)) = true := by simp; omega
            clear ha
            go_wp2_with (go_at_call 20; refine (HL2.out _).mono ?_; rintro e w' ⟨rfl, rfl⟩)
            go_round
            case rel => exact ⟨k + 1, _, by omega, by go_num, rfl, HE.out, .inr ⟨rfl, HO.out⟩⟩
            case measure => simp [intOf]; omega
        · have HO := Lib.hid (Nat.lt_of_lt_of_le hm (numK_mono s (Nat.le_succ k)))
          clear hm
          go_wp2_with (go_at_call 20; refine (HL2.out _).mono ?_; rintro e w' ⟨rfl, rfl⟩)
          go_round
          case rel => exact ⟨k + 1, _, by omega, by go_num, rfl, HE.out, .inr ⟨rfl, HO.out⟩⟩
          case measure => simp [intOf]; omega
    · obtain rfl : k = s.size := by omega
      have hall : allB digB s = true := allB_yes fun j hj => HD.out j hj hj
      rcases ho with ⟨rfl, rfl, hm⟩ | ⟨rfl, hm⟩
      · have HV := Lib.hid (parV_ok h0 hall hm)
        clear hall
        go_wp2
        go_ret2
        exact ⟨by rw [HV.out]; first | done | rfl, rfl⟩
      · have HV := Lib.hid (parV_range h0 hall hm)
        clear hall
        go_wp2
        go_ret2
        exact ⟨by rw [HV.out]; first | done | rfl, rfl⟩

theorem parV_007 : parV ⟨#[48, 48, 55]⟩ = .tuple #[.int .i64 7, .int .i64 0] := by kernel_rfl
theorem strV_007 : strV ⟨#[48, 48, 55]⟩ = .tuple #[.int .i64 0, .int .i64 2] := by kernel_rfl

set_option maxHeartbeats 400000 in
theorem lives_any (w : World) :
    Calls Try.prog 11 #[] w fun e w' => e = .returned (.bool true) ∧ Below w.heap.size w w' := by
  have HP : Hid (∀ W, Calls Try.prog 6 #[.string ⟨#[48, 48, 55]⟩] W fun e w' => e = .returned (.tuple #[.int .i64 7, .int .i64 0]) ∧ Below W.heap.size W w') := fun W => by
    have := parse_any ⟨#[48, 48, 55]⟩ W (of_decide_eq_true rfl)
    rwa [parV_007] at this
  have HS : Hid (∀ W, Calls Try.prog 7 #[.string ⟨#[48, 48, 55]⟩] W fun e w' => e = .returned (.tuple #[.int .i64 0, .int .i64 2]) ∧ Below W.heap.size W w') := fun W => by
    have := strict_any ⟨#[48, 48, 55]⟩ W (of_decide_eq_true rfl)
    rwa [strV_007] at this
  go_enter Try.func11, Try.ntmps11
  go_wp2_with (first
    | (go_at_call 6; refine (HP.out _).mono ?_; rintro e w1 ⟨rfl, hb1⟩)
    | (go_at_call 7; refine (HS.out _).mono ?_; rintro e w2 ⟨rfl, hb2⟩))
  go_ret
  exact ⟨rfl, hb1.trans (hb2.mono hb1.size)⟩

end Go.Proofs.Ytpnkdcakhjejnaa

/-
  What package binary's Mark, Rule, Share and Cut answer, and the document's own. Condition: lengths as they can be.
-/
import Derived.Test.YtlfbbphkbpajoaaEb
import Derived.Test.YtlfbbphkbpajoaaFr
import Derived.Test.YtlfbbphkbpajoaaCut
namespace Go.Proofs.Ytlfbbphkbpajoaa
open Go.RowKit

abbrev eigS : ByteArray := ⟨#[239, 187, 191]⟩
abbrev higS : ByteArray := ⟨#[254, 255]⟩
abbrev lwoS : ByteArray := ⟨#[255, 254]⟩
theorem pref_eig {s : ByteArray} (h : 2 < s.size) : prefB s eigS = (s[0] == 239 && s[1] == 187 && s[2] == 191) := by
  unfold prefB
  rw [show decide (eigS.size ≤ s.size) = true from decide_eq_true (show 3 ≤ s.size by omega), show s.extract 0 eigS.size = s.extract 0 3 from rfl, ext_three h, show eigS.toList = [239, 187, 191] from by kernel_rfl]
  simp [Bool.and_assoc, -List.cons_beq_cons, List.cons_beq_cons]
theorem pref_hig {s : ByteArray} (h : 1 < s.size) : prefB s higS = (s[0] == 254 && s[1] == 255) := by
  unfold prefB
  rw [show decide (higS.size ≤ s.size) = true from decide_eq_true (show 2 ≤ s.size by omega), show s.extract 0 higS.size = s.extract 0 2 from rfl, ext_two h, show higS.toList = [254, 255] from by kernel_rfl]
  simp
theorem pref_lwo {s : ByteArray} (h : 1 < s.size) : prefB s lwoS = (s[0] == 255 && s[1] == 254) := by
  unfold prefB
  rw [show decide (lwoS.size ≤ s.size) = true from decide_eq_true (show 2 ≤ s.size by omega), show s.extract 0 lwoS.size = s.extract 0 2 from rfl, ext_two h, show lwoS.toList = [255, 254] from by kernel_rfl]
  simp
theorem pref_no {s p : ByteArray} (h : s.size < p.size) : prefB s p = false := by
  unfold prefB
  rw [decide_eq_false (by omega)]
  rfl
theorem u8_is (b c : UInt8) : (b == c) = decide (b.toNat = c.toNat) := by
  rw [Bool.eq_iff_iff, beq_iff_eq, decide_eq_true_eq]
  exact UInt8.toNat_inj.symm
theorem mrk_prog (s : ByteArray) : mrkN s = if prefB s eigS = true then 3 else if prefB s higS = true then 2 else if prefB s lwoS = true then 2 else 0 := by
  by_cases h2 : 2 < s.size
  · rw [mrk_three h2, pref_eig h2, pref_hig (by omega), pref_lwo (by omega)]
    unfold mkT mkU
    simp only [u8_is, UInt8.reduceToNat, Bool.and_eq_true, decide_eq_true_eq, and_assoc]
    split
    · rfl
    · split
      · rename_i h; rcases h with h | h
        · rw [if_pos h]
        · rw [if_neg (by omega), if_pos h]
      · rename_i h; rw [if_neg (fun c => h (Or.inl c)), if_neg (fun c => h (Or.inr c))]
  · by_cases h1 : 1 < s.size
    · rw [mrk_two h2 h1, pref_no (show s.size < eigS.size from by show s.size < 3; omega), pref_hig h1, pref_lwo h1]
      unfold mkU
      simp only [u8_is, UInt8.reduceToNat, Bool.and_eq_true, decide_eq_true_eq]
      rw [if_neg (show ¬ (false = true) from Bool.noConfusion)]
      split
      · rename_i h; rcases h with h | h
        · rw [if_pos h]
        · rw [if_neg (by omega), if_pos h]
      · rename_i h; rw [if_neg (fun c => h (Or.inl c)), if_neg (fun c => h (Or.inr c))]
    · rw [mrk_few h1, pref_no (show s.size < eigS.size from by show s.size < 3; omega), pref_no (show s.size < higS.size from by show s.size < 2; omega), pref_no (show s.size < lwoS.size from by show s.size < 2; omega)]
      rfl

set_option maxHeartbeats 400000 in
theorem mark_any (s : ByteArray) (w : World) (hs : s.size ≤ 9223372036854775807) :
    Calls Try.prog 18 #[.string s] w fun e w' => e = .returned (.int .i64 (mrkN s : Nat)) ∧ w = w' := by
  have H1 := Lib.hid (fun W => hasPrefix_any s eigS W hs (by decide))
  have H2 := Lib.hid (fun W => hasPrefix_any s higS W hs (by decide))
  have H3 := Lib.hid (fun W => hasPrefix_any s lwoS W hs (by decide))
  rw [mrk_prog]
  generalize prefB s eigS = p1 at *
  generalize prefB s higS = p2 at *
  generalize prefB s lwoS = p3 at *
  cases p1 <;> cases p2 <;> cases p3
  all_goals
    go_enter Try.func18, Try.ntmps18
    go_wp2_with (first
      | (go_at_call 28; (with_reducible refine (H1.out _).mono ?_); rintro e w1 ⟨rfl, rfl⟩)
      | (go_at_call 28; (with_reducible refine (H2.out _).mono ?_); rintro e w1 ⟨rfl, rfl⟩)
      | (go_at_call 28; (with_reducible refine (H3.out _).mono ?_); rintro e w1 ⟨rfl, rfl⟩))
    go_ret
    exact ⟨rfl, rfl⟩

theorem three_ways (a b : Bool) : a = false ∨ (a = true ∧ b = false) ∨ (a = true ∧ b = true) := by cases a <;> cases b <;> simp
theorem four_ways (a b c : Bool) : a = false ∨ (a = true ∧ b = false) ∨ (a = true ∧ b = true ∧ c = false) ∨ (a = true ∧ b = true ∧ c = true) := by cases a <;> cases b <;> cases c <;> simp
theorem int_is (b : UInt8) (n : Nat) : ((b.toNat : Int) == (n : Int)) = decide (b.toNat = n) := by
  rw [Bool.eq_iff_iff, beq_iff_eq, decide_eq_true_eq]
  omega

theorem mkU_b (a b : UInt8) : mkU a b = if ((((a.toNat : Int) == 254) && ((b.toNat : Int) == 255)) || (((a.toNat : Int) == 255) && ((b.toNat : Int) == 254))) = true then 2 else 0 := by
  have h0 : ((a.toNat : Int) == 254) = decide (a.toNat = 254) := int_is a 254
  have h1 : ((b.toNat : Int) == 255) = decide (b.toNat = 255) := int_is b 255
  have h2 : ((a.toNat : Int) == 255) = decide (a.toNat = 255) := int_is a 255
  have h3 : ((b.toNat : Int) == 254) = decide (b.toNat = 254) := int_is b 254
  rw [h0, h1, h2, h3]
  unfold mkU
  simp only [Bool.or_eq_true, Bool.and_eq_true, decide_eq_true_eq]
theorem mkT_b (a b c : UInt8) : mkT a b c = if (((a.toNat : Int) == 239) && ((b.toNat : Int) == 187) && ((c.toNat : Int) == 191)) = true then 3 else if ((((a.toNat : Int) == 254) && ((b.toNat : Int) == 255)) || (((a.toNat : Int) == 255) && ((b.toNat : Int) == 254))) = true then 2 else 0 := by
  rw [← mkU_b]
  have h0 : ((a.toNat : Int) == 239) = decide (a.toNat = 239) := int_is a 239
  have h1 : ((b.toNat : Int) == 187) = decide (b.toNat = 187) := int_is b 187
  have h2 : ((c.toNat : Int) == 191) = decide (c.toNat = 191) := int_is c 191
  rw [h0, h1, h2]
  unfold mkT
  simp only [Bool.and_eq_true, decide_eq_true_eq, and_assoc]

set_option maxHeartbeats 4000000 in
theorem rmark_any (s : ByteArray) (w : World) (_hs : s.size ≤ 9223372036854775807) :
    Calls Try.prog 19 #[.string s] w fun e w' => e = .returned (.int .i64 (mrkN s : Nat)) ∧ w = w' := by
  by_cases h1 : 1 < s.size
  · have g1 : decide ((1 : Int) < (s.size : Int)) = true := by rw [decide_eq_true_eq]; omega
    by_cases h2 : 2 < s.size
    · have g2 : decide ((2 : Int) < (s.size : Int)) = true := by rw [decide_eq_true_eq]; omega
      have HV := Lib.hid ((mrk_three h2).trans (mkT_b _ _ _))
      generalize mrkN s = v at *
      rcases four_ways ((s[0].toNat : Int) == 239) ((s[1].toNat : Int) == 187) ((s[2].toNat : Int) == 191) with d0 | ⟨d0, d1⟩ | ⟨d0, d1, d2⟩ | ⟨d0, d1, d2⟩
      all_goals rcases three_ways ((s[0].toNat : Int) == 254) ((s[1].toNat : Int) == 255) with d3 | ⟨d3, d4⟩ | ⟨d3, d4⟩
      all_goals rcases three_ways ((s[0].toNat : Int) == 255) ((s[1].toNat : Int) == 254) with d5 | ⟨d5, d6⟩ | ⟨d5, d6⟩
      all_goals
        go_enter Try.func19, Try.ntmps19
        go_wp2
        go_ret
        exact ⟨by rw [HV.out]; simp only [*]; rfl, rfl⟩
    · have g2 : decide ((2 : Int) < (s.size : Int)) = false := by simp; omega
      have HV := Lib.hid ((mrk_two h2 h1).trans (mkU_b _ _))
      generalize mrkN s = v at *
      rcases three_ways ((s[0].toNat : Int) == 254) ((s[1].toNat : Int) == 255) with d3 | ⟨d3, d4⟩ | ⟨d3, d4⟩
      all_goals rcases three_ways ((s[0].toNat : Int) == 255) ((s[1].toNat : Int) == 254) with d5 | ⟨d5, d6⟩ | ⟨d5, d6⟩
      all_goals
        go_enter Try.func19, Try.ntmps19
        go_wp2
        go_ret
        exact ⟨by rw [HV.out]; simp only [*]; rfl, rfl⟩
  · have g1 : decide ((1 : Int) < (s.size : Int)) = false := by simp; omega
    have g2 : decide ((2 : Int) < (s.size : Int)) = false := by simp; omega
    rw [mrk_few h1]
    go_enter Try.func19, Try.ntmps19
    go_wp2
    go_ret
    exact ⟨rfl, rfl⟩

end Go.Proofs.Ytlfbbphkbpajoaa

/-
  What package binary's Rule, Share and Cut answer, and the document's own; the law BinaryBytes. Condition: lengths as they can be.
-/
import Derived.Test.YtlfbbphkbpajoaaEc
namespace Go.Proofs.Ytlfbbphkbpajoaa
open Go.RowKit

abbrev txtS : ByteArray := ⟨#[116, 101, 120, 116, 47, 112, 108, 97, 105, 110]⟩
abbrev octS : ByteArray := ⟨#[97, 112, 112, 108, 105, 99, 97, 116, 105, 111, 110, 47, 111, 99, 116, 101, 116, 45, 115, 116, 114, 101, 97, 109]⟩
/-- The type of some bytes. -/
def rulS (s : ByteArray) : ByteArray := if binF s < s.size ∧ mrkN s = 0 then octS else txtS

set_option maxHeartbeats 1000000 in
theorem rule_any (s : ByteArray) (w : World) (hs : s.size ≤ 9223372036854775807) :
    Calls Try.prog 17 #[.string s] w fun e w' => e = .returned (.string (rulS s)) ∧ w = w' := by
  have HF := Lib.hid (fun W => first_any s W hs)
  have HM := Lib.hid (fun W => mark_any s W hs)
  obtain ⟨o, ho⟩ : ∃ o, o = decide (binF s < s.size) := ⟨_, rfl⟩
  have HV : Hid (rulS s = if o = true ∧ mrkN s = 0 then octS else txtS) := Lib.hid (by unfold rulS; simp only [ho, decide_eq_true_eq])
  rw [← ho] at HF
  clear ho
  generalize rulS s = v at *
  generalize fstN s = f at *
  generalize mrkN s = m at *
  cases o
  · have HV2 : Hid (v = txtS) := Lib.hid (by rw [HV.out, if_neg (fun c => absurd c.1 Bool.noConfusion)])
    clear HV
    go_enter Try.func17, Try.ntmps17
    go_wp2_with (first
      | (go_at_call 10; (with_reducible refine (HF.out _).mono ?_); rintro e w1 ⟨rfl, rfl⟩)
      | (go_at_call 18; (with_reducible refine (HM.out _).mono ?_); rintro e w1 ⟨rfl, rfl⟩))
    go_ret
    exact ⟨by rw [HV2.out]; first | done | rfl, rfl⟩
  · by_cases hm : m = 0
    · have HV2 : Hid (v = octS) := Lib.hid (by rw [HV.out, if_pos ⟨rfl, hm⟩])
      clear HV
      subst hm
      go_enter Try.func17, Try.ntmps17
      go_wp2_with (first
        | (go_at_call 10; (with_reducible refine (HF.out _).mono ?_); rintro e w1 ⟨rfl, rfl⟩)
        | (go_at_call 18; (with_reducible refine (HM.out _).mono ?_); rintro e w1 ⟨rfl, rfl⟩))
      go_ret
      exact ⟨by rw [HV2.out]; first | done | rfl, rfl⟩
    · have HV2 : Hid (v = txtS) := Lib.hid (by rw [HV.out, if_neg (fun c => hm c.2)])
      have d : ((m : Int) == 0) = false := by rw [beq_eq_false_iff_ne]; omega
      clear HV
      go_enter Try.func17, Try.ntmps17
      go_wp2_with (first
        | (go_at_call 10; (with_reducible refine (HF.out _).mono ?_); rintro e w1 ⟨rfl, rfl⟩)
        | (go_at_call 18; (with_reducible refine (HM.out _).mono ?_); rintro e w1 ⟨rfl, rfl⟩))
      go_ret
      exact ⟨by rw [HV2.out]; first | done | rfl, rfl⟩

set_option maxHeartbeats 1000000 in
theorem rrule_any (s : ByteArray) (w : World) (hs : s.size ≤ 9223372036854775807) :
    Calls Try.prog 20 #[.string s] w fun e w' => e = .returned (.string (rulS s)) ∧ w = w' := by
  have HF := Lib.hid (fun W => rfirst_any s W hs)
  have HM := Lib.hid (fun W => rmark_any s W hs)
  by_cases hm : 0 < mrkN s
  · have HV2 : Hid (rulS s = txtS) := Lib.hid (by unfold rulS; rw [if_neg (fun c => by omega)])
    generalize rulS s = v at *
    generalize mrkN s = m at *
    have d : decide ((0 : Int) < (m : Int)) = true := by rw [decide_eq_true_eq]; omega
    go_enter Try.func20, Try.ntmps20
    go_wp2_with (first
      | (go_at_call 19; (with_reducible refine (HM.out _).mono ?_); rintro e w1 ⟨rfl, rfl⟩))
    go_ret
    exact ⟨by rw [HV2.out]; first | done | rfl, rfl⟩
  · have d : decide (0 < mrkN s) = false := decide_eq_false hm
    by_cases hf : binF s < s.size
    · have HV2 : Hid (rulS s = octS) := Lib.hid (by unfold rulS; rw [if_pos ⟨hf, by omega⟩])
      have e : fstI s = (binF s : Nat) := if_pos hf
      rw [e] at HF
      have d2 : decide ((binF s : Int) < 0) = false := by rw [decide_eq_false_iff_not]; omega
      generalize rulS s = v at *
      generalize mrkN s = m at *
      generalize binF s = f at *
      clear e hm hf
      go_enter Try.func20, Try.ntmps20
      go_wp2_with (first
        | (go_at_call 19; (with_reducible refine (HM.out _).mono ?_); rintro e w1 ⟨rfl, rfl⟩)
        | (go_at_call 11; (with_reducible refine (HF.out _).mono ?_); rintro e w1 ⟨rfl, rfl⟩))
      go_ret
      exact ⟨by rw [HV2.out]; first | done | rfl, rfl⟩
    · have HV2 : Hid (rulS s = txtS) := Lib.hid (by unfold rulS; rw [if_neg (fun c => hf c.1)])
      have e : fstI s = -1 := if_neg hf
      rw [e] at HF
      generalize rulS s = v at *
      generalize mrkN s = m at *
      clear e hm hf
      go_enter Try.func20, Try.ntmps20
      go_wp2_with (first
        | (go_at_call 19; (with_reducible refine (HM.out _).mono ?_); rintro e w1 ⟨rfl, rfl⟩)
        | (go_at_call 11; (with_reducible refine (HF.out _).mono ?_); rintro e w1 ⟨rfl, rfl⟩))
      go_ret
      exact ⟨by rw [HV2.out]; first | done | rfl, rfl⟩

set_option maxHeartbeats 1000000 in
theorem share_any (s : ByteArray) (w : World) (hs : s.size ≤ 9223372036854775807) :
    Calls Try.prog 13 #[.string s] w fun e w' => ∃ r, e = .returned (.float .f64 r) ∧ r < 18446744073709551616 ∧ normB r = normB (quotB (binN s s.size : Nat) (s.size : Nat)) ∧ ∃ n, w' = w.drewN n := by
  have HC := Lib.hid (fun W => count19_any s W hs)
  have HR := Lib.hid (fun W => ratio_any (binN s s.size : Nat) (s.size : Nat) W)
  generalize binN s s.size = m at *
  go_enter Try.func13, Try.ntmps13
  go_wp2_with (first
    | (go_at_call 14; (with_reducible refine (HC.out _).mono ?_); rintro e w1 ⟨rfl, rfl⟩))
  refine (HR.out _).mono ?_
  rintro e w1 ⟨r, rfl, hr, hq, n, rfl⟩
  go_wp2
  go_ret
  exact ⟨r, rfl, hr, hq, n, rfl⟩

set_option maxHeartbeats 400000 in
theorem cut19_any (s : ByteArray) (w : World) (_hs : s.size ≤ 9223372036854775807) :
    Calls Try.prog 22 #[.string s] w fun e w' => e = .returned (.string (cutB s 1445)) ∧ w = w' := by
  obtain ⟨m, hm⟩ : ∃ m : Nat, m = if 1445 < s.size then 1445 else s.size := ⟨_, rfl⟩
  have hr : ∀ (ts : Array TypeId) (t : TypeId) (w : World), (Builtin.min_ ts t #[.int .i64 (s.size : Nat), .int .i64 1445]).run Try.prog w = .ok (.int .i64 (m : Nat)) w := fun ts t w => by
    rw [hm]
    by_cases h : 1445 < s.size
    · rw [if_pos h]
      have h3 : (1445 : Int) < (s.size : Int) := by omega
      simp [Builtin.min_, Builtin.min2, h3]
    · rw [if_neg h]
      by_cases h3 : (s.size : Int) < 1445
      · simp [Builtin.min_, Builtin.min2]; omega
      · have h4 : s.size = 1445 := by omega
        rw [h4]
        simp [Builtin.min_, Builtin.min2]
  have hm2 : m ≤ s.size := by rw [hm]; split <;> omega
  have HV : Hid (cutB s 1445 = s.extract 0 m) := Lib.hid (by
    unfold cutB
    rw [hm]
    split
    · rfl
    · exact ByteArray.extract_zero_size.symm)
  clear hm
  generalize cutB s 1445 = v at *
  go_enter Try.func22, Try.ntmps22
  go_wp2
  go_ret
  exact ⟨by rw [HV.out]; first | done | rfl, rfl⟩

set_option maxHeartbeats 400000 in
theorem rcut19_any (s : ByteArray) (w : World) (_hs : s.size ≤ 9223372036854775807) :
    Calls Try.prog 23 #[.string s] w fun e w' => e = .returned (.string (cutB s 1445)) ∧ w = w' := by
  by_cases h : 1445 < s.size
  · have hx : Hid (cutB s 1445 = s.extract 0 1445) := Lib.hid (by simp [cutB, h])
    have h1 : decide ((1445 : Int) < (s.size : Int)) = true := by rw [decide_eq_true_eq]; omega
    generalize cutB s 1445 = v at *
    go_enter Try.func23, Try.ntmps23
    go_wp2
    go_ret
    exact ⟨by rw [hx.out]; first | done | rfl, rfl⟩
  · have hx : Hid (cutB s 1445 = s) := Lib.hid (by simp [cutB, h])
    have h1 : decide ((1445 : Int) < (s.size : Int)) = false := by rw [decide_eq_false_iff_not]; omega
    generalize cutB s 1445 = v at *
    go_enter Try.func23, Try.ntmps23
    go_wp2
    go_ret
    exact ⟨by rw [hx.out]; first | done | rfl, rfl⟩

set_option maxHeartbeats 400000 in
theorem lives19_any (w : World) :
    Calls Try.prog 8 #[] w fun e w' => e = .returned (.bool true) ∧ w = w' := by
  have H1 := Lib.hid (fun W => rule_any ⟨#[97, 0]⟩ W (by decide))
  have H2 := Lib.hid (fun W => rule_any ⟨#[97]⟩ W (by decide))
  have H3 := Lib.hid (fun W => mark_any ⟨#[254, 255]⟩ W (by decide))
  rw [show rulS ⟨#[97, 0]⟩ = octS from by kernel_rfl] at H1
  rw [show rulS ⟨#[97]⟩ = txtS from by kernel_rfl] at H2
  rw [show mrkN ⟨#[254, 255]⟩ = 2 from by kernel_rfl] at H3
  go_enter Try.func8, Try.ntmps8
  go_wp2_with (first
    | (go_at_call 17; (with_reducible refine (H1.out _).mono ?_); rintro e w1 ⟨rfl, rfl⟩)
    | (go_at_call 17; (with_reducible refine (H2.out _).mono ?_); rintro e w1 ⟨rfl, rfl⟩)
    | (go_at_call 18; (with_reducible refine (H3.out _).mono ?_); rintro e w1 ⟨rfl, rfl⟩))
  go_ret
  exact ⟨rfl, rfl⟩

set_option maxHeartbeats 400000 in
theorem binaryBytes_any (b : UInt8) (w : World) :
    Calls Try.prog 3 #[.int .u8 (b.toNat : Int)] w fun e w' => e = .returned (.bool true) ∧ Below w.heap.size w w' := by
  have H1 := Lib.hid (fun W => byte_any b W)
  have H2 := Lib.hid (fun W => rbyte_any b W)
  have HL := Lib.hid lives19_any
  generalize binB b = o at *
  cases o <;>
  · go_enter Try.func3, Try.ntmps3
    go_wp2_with (first
      | (go_at_call 6; (with_reducible refine (H1.out _).mono ?_); rintro e w1 ⟨rfl, rfl⟩)
      | (go_at_call 7; (with_reducible refine (H2.out _).mono ?_); rintro e w1 ⟨rfl, rfl⟩)
      | (go_at_call 8; (with_reducible refine (HL.out _).mono ?_); rintro e w1 ⟨rfl, rfl⟩))
    go_ret
    exact ⟨rfl, Below.refl _ _⟩

end Go.Proofs.Ytlfbbphkbpajoaa

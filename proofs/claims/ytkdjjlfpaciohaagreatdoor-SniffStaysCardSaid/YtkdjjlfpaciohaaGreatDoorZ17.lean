/-
  What package binary's Byte, First, Mark and Count answer, and the document's own. Condition: lengths as they can be.
  What package binary's Mark, Rule, Share and Cut answer, and the document's own. Condition: lengths as they can be.
  What package binary's Rule, Share and Cut answer, and the document's own; the law BinaryBytes. Condition: lengths as they can be.
-/
import Derived.Test.YtkdjjlfpaciohaaGreatDoorZ16
import Derived.Test.YtkdjjlfpaciohaaGreatDoorZ9
import Derived.Test.YtkdjjlfpaciohaaGreatDoorZ3
import Derived.LoopTactic
import Derived.Test.YtkdjjlfpaciohaaGreatDoorZ11
import Derived.Test.YtkdjjlfpaciohaaGreatDoorRows
import Derived.Laws.FloatArith
import Derived.KernelRfl
import Derived.WalkKit
import Derived.WalkSpells
import Derived.WalkLawsBesides
import Derived.Laws.Externs
import Derived.Laws.BitsAllLaws
import Derived.RegionTactic
import Derived.Deep.RegionWith
import Derived.Deep.DeepCutAuto
import Derived.Lib.Hide
namespace Go.Proofs.YtkdjjlfpaciohaaGreatDoor
open Go.RowKit

abbrev ctrS : ByteArray := ⟨#[9, 10, 12, 13, 27]⟩
theorem binB_prog (b : UInt8) : binB b = (decide ((b.toNat : Int) < 32) && decide (firstIdx ctrS b < 0)) := by
  have := bytes_all (p := fun b => binB b == (decide ((b.toNat : Int) < 32) && decide (firstIdx ctrS b < 0))) (by kernel_rfl) b
  simpa using this

set_option maxHeartbeats 400000 in
theorem bbyte_any (b : UInt8) (w : World) :
    Calls Tryz.prog 79 #[.int .u8 (b.toNat : Int)] w fun e w' => e = .returned (.bool (binB b)) ∧ w = w' := by
  have HX := Lib.hid (fun W => indexByte_any ctrS b W)
  rw [binB_prog]
  generalize firstIdx ctrS b = i at *
  cases h1 : decide ((b.toNat : Int) < 32) <;>
  · go_enter Tryz.func79, Tryz.ntmps79
    go_wp2_with (go_at_call 107; (with_reducible refine (HX.out _).mono ?_); rintro e w1 ⟨rfl, rfl⟩)
    go_ret
    exact ⟨rfl, rfl⟩

set_option maxHeartbeats 400000 in
theorem rbyte_any (b : UInt8) (w : World) :
    Calls Tryz.prog 72 #[.int .u8 (b.toNat : Int)] w fun e w' => e = .returned (.bool (binB b)) ∧ w = w' := by
  have e : binB b = (decide ((b.toNat : Int) ≤ 8) || ((b.toNat : Int) == 11) || (decide ((14 : Int) ≤ (b.toNat : Int)) && decide ((b.toNat : Int) ≤ 26)) || (decide ((28 : Int) ≤ (b.toNat : Int)) && decide ((b.toNat : Int) ≤ 31))) := by
    have := bytes_all (p := fun b => binB b == (decide ((b.toNat : Int) ≤ 8) || ((b.toNat : Int) == 11) || (decide ((14 : Int) ≤ (b.toNat : Int)) && decide ((b.toNat : Int) ≤ 26)) || (decide ((28 : Int) ≤ (b.toNat : Int)) && decide ((b.toNat : Int) ≤ 31)))) (by kernel_rfl) b
    simpa using this
  rw [e]
  clear e
  cases h0 : decide ((b.toNat : Int) ≤ 8) <;> cases h1 : ((b.toNat : Int) == 11) <;> cases h2 : decide ((14 : Int) ≤ (b.toNat : Int)) <;> cases h3 : decide ((b.toNat : Int) ≤ 26) <;> cases h4 : decide ((28 : Int) ≤ (b.toNat : Int)) <;>
  · go_enter Tryz.func72, Tryz.ntmps72
    go_wp2
    go_ret
    exact ⟨rfl, rfl⟩

/-- None of the first k bytes is binary. -/
def binK (s : ByteArray) (k : Nat) : Prop := scan (fun b => !binB b) s k = binF s
theorem binK_zero (s : ByteArray) : binK s 0 := rfl
theorem binK_no {s : ByteArray} {k : Nat} (h : binK s k) (hk : k < s.size) (hb : binB s[k] = false) : binK s (k + 1) := by
  unfold binK at *
  rw [← h]
  exact scan_step hk (by simp [hb])
theorem binK_yes {s : ByteArray} {k : Nat} (h : binK s k) (hk : k < s.size) (hb : binB s[k] = true) : binF s = k := by
  unfold binK at *
  rw [← h]
  exact scan_stop hk (by simp [hb])
theorem binK_end {s : ByteArray} (h : binK s s.size) : binF s = s.size := by
  unfold binK at *
  rw [← h]
  exact scan_end rfl

/-- Where the first binary byte stands; 0, if none is. -/
def fstN (s : ByteArray) : Nat := if binF s < s.size then binF s else 0

set_option maxHeartbeats 1000000 in
theorem bfirst_any (s : ByteArray) (w : World) (hs : s.size ≤ 9223372036854775807) :
    Calls Tryz.prog 55 #[.string s] w fun e w' => e = .returned (.tuple #[.int .i64 (fstN s : Nat), .bool (decide (binF s < s.size))]) ∧ w = w' := by
  have HY := Lib.hid (fun k (h : k < s.size) (hb : binB s[k] = true) (hk : binK s k) => show fstN s = k ∧ decide (binF s < s.size) = true from by
    have := binK_yes hk h hb
    unfold fstN
    rw [this, if_pos h]
    exact ⟨rfl, decide_eq_true h⟩)
  have HE := Lib.hid (fun (hk : binK s s.size) => show fstN s = 0 ∧ decide (binF s < s.size) = false from by
    have := binK_end hk
    unfold fstN
    rw [this, if_neg (Nat.lt_irrefl _)]
    exact ⟨rfl, decide_eq_false (Nat.lt_irrefl _)⟩)
  generalize fstN s = f at *
  generalize decide (binF s < s.size) = o at *
  go_enter Tryz.func55, Tryz.ntmps55
  go_wp2
  go_loop [4, 7] (fun _ i => ∃ k : Nat, k ≤ s.size ∧ i = .int .i64 k ∧ binK s k) (fun _ i => s.size - (intOf i).toNat)
  case atStart => exact ⟨0, by omega, rfl, binK_zero s⟩
  case round =>
    obtain ⟨k, hk, rfl, hb⟩ := hrel
    have HB := Lib.hid hb
    clear hb
    by_cases hlt : k < s.size
    · have HC := Lib.hid (fun W => bbyte_any s[k] W)
      have HN := Lib.hid (binK_no HB.out hlt)
      have HYY := Lib.hid (fun h => HY.out k hlt h HB.out)
      generalize hbb : binB s[k] = bb at *
      cases bb
      · go_wp2_with (go_at_call 79; (with_reducible refine (HC.out _).mono ?_); rintro e w1 ⟨rfl, rfl⟩)
        go_round
        case rel => exact ⟨k + 1, by omega, by go_num, HN.out trivial⟩
        case measure => simp [intOf]; omega
      · obtain ⟨rfl, rfl⟩ := HYY.out rfl
        go_wp2_with (go_at_call 79; (with_reducible refine (HC.out _).mono ?_); rintro e w1 ⟨rfl, rfl⟩)
        go_ret2
        exact ⟨rfl, rfl⟩
    · obtain rfl : k = s.size := by omega
      obtain ⟨rfl, rfl⟩ := HE.out HB.out
      go_wp2
      go_ret2
      exact ⟨rfl, rfl⟩

/-- Where the document says that the first one stands; below 0: there is none. -/
def fstI (s : ByteArray) : Int := if binF s < s.size then (binF s : Nat) else -1

set_option maxHeartbeats 1000000 in
theorem rfirst_any (s : ByteArray) (w : World) (hs : s.size ≤ 9223372036854775807) :
    Calls Tryz.prog 49 #[.string s] w fun e w' => e = .returned (.int .i64 (fstI s)) ∧ w = w' := by
  have HY := Lib.hid (fun k (h : k < s.size) (hb : binB s[k] = true) (hk : binK s k) => show fstI s = (k : Nat) from by
    have := binK_yes hk h hb
    unfold fstI
    rw [this, if_pos h])
  have HE := Lib.hid (fun (hk : binK s s.size) => show fstI s = -1 from by
    have := binK_end hk
    unfold fstI
    rw [this, if_neg (Nat.lt_irrefl _)])
  generalize fstI s = f at *
  go_enter Tryz.func49, Tryz.ntmps49
  go_wp2
  go_loop [3] (fun i => ∃ k : Nat, k ≤ s.size ∧ i = .int .i64 k ∧ binK s k) (fun i => s.size - (intOf i).toNat)
  case atStart => exact ⟨0, by omega, rfl, binK_zero s⟩
  case round =>
    obtain ⟨k, hk, rfl, hb⟩ := hrel
    have HB := Lib.hid hb
    clear hb
    by_cases hlt : k < s.size
    · have HC := Lib.hid (fun W => rbyte_any s[k] W)
      have HN := Lib.hid (binK_no HB.out hlt)
      have HYY := Lib.hid (fun h => HY.out k hlt h HB.out)
      generalize hbb : binB s[k] = bb at *
      cases bb
      · go_wp2_with (go_at_call 72; (with_reducible refine (HC.out _).mono ?_); rintro e w1 ⟨rfl, rfl⟩)
        go_round
        case rel => exact ⟨k + 1, by omega, by go_num, HN.out trivial⟩
        case measure => simp [intOf]; omega
      · obtain rfl := HYY.out rfl
        go_wp2_with (go_at_call 72; (with_reducible refine (HC.out _).mono ?_); rintro e w1 ⟨rfl, rfl⟩)
        go_ret
        exact ⟨rfl, rfl⟩
    · obtain rfl : k = s.size := by omega
      obtain rfl := HE.out HB.out
      go_wp2
      go_ret
      exact ⟨rfl, rfl⟩

end Go.Proofs.YtkdjjlfpaciohaaGreatDoor
namespace Go.Proofs.YtkdjjlfpaciohaaGreatDoor
open Go.RowKit

abbrev eigS : ByteArray := ⟨#[239, 187, 191]⟩
abbrev higS : ByteArray := ⟨#[254, 255]⟩
abbrev lwoS : ByteArray := ⟨#[255, 254]⟩
theorem pref_eig {s : ByteArray} (h : 2 < s.size) : prefB s eigS = (s[0] == 239 && s[1] == 187 && s[2] == 191) := by
  unfold prefB
  rw [show decide (eigS.size ≤ s.size) = true from decide_eq_true (show 3 ≤ s.size by omega), show s.extract 0 eigS.size = s.extract 0 3 from rfl, ext_three h, show eigS.toList = [239, 187, 191] from by kernel_rfl]
  simp [Bool.and_assoc, -List.cons_beq_cons, List.cons_beq_cons]
theorem pref_hig {s : ByteArray} (h : 1 < s.size) : prefB s higS = (s[0] == 254 && s[1] == 255) := by
  unfold prefB
  rw [show decide (higS.size ≤ s.size) = true from decide_eq_true (show 2 ≤ s.size by omega), show s.extract 0 higS.size = s.extract 0 2 from rfl, ext_two h, show higS.toList = [254, 255] from by kernel_rfl]
  simp
theorem pref_lwo {s : ByteArray} (h : 1 < s.size) : prefB s lwoS = (s[0] == 255 && s[1] == 254) := by
  unfold prefB
  rw [show decide (lwoS.size ≤ s.size) = true from decide_eq_true (show 2 ≤ s.size by omega), show s.extract 0 lwoS.size = s.extract 0 2 from rfl, ext_two h, show lwoS.toList = [255, 254] from by kernel_rfl]
  simp
theorem pref_no {s p : ByteArray} (h : s.size < p.size) : prefB s p = false := by
  unfold prefB
  rw [decide_eq_false (by omega)]
  rfl
theorem u8_is (b c : UInt8) : (b == c) = decide (b.toNat = c.toNat) := by
  rw [Bool.eq_iff_iff, beq_iff_eq, decide_eq_true_eq]
  exact UInt8.toNat_inj.symm
theorem mrk_prog (s : ByteArray) : mrkN s = if prefB s eigS = true then 3 else if prefB s higS = true then 2 else if prefB s lwoS = true then 2 else 0 := by
  by_cases h2 : 2 < s.size
  · rw [mrk_three h2, pref_eig h2, pref_hig (by omega), pref_lwo (by omega)]
    unfold mkT mkU
    simp only [u8_is, UInt8.reduceToNat, Bool.and_eq_true, decide_eq_true_eq, and_assoc]
    split
    · rfl
    · split
      · rename_i h; rcases h with h | h
        · rw [if_pos h]
        · rw [if_neg (by omega), if_pos h]
      · rename_i h; rw [if_neg (fun c => h (Or.inl c)), if_neg (fun c => h (Or.inr c))]
  · by_cases h1 : 1 < s.size
    · rw [mrk_two h2 h1, pref_no (show s.size < eigS.size from by show s.size < 3; omega), pref_hig h1, pref_lwo h1]
      unfold mkU
      simp only [u8_is, UInt8.reduceToNat, Bool.and_eq_true, decide_eq_true_eq]
      rw [if_neg (show ¬ (false = true) from Bool.noConfusion)]
      split
      · rename_i h; rcases h with h | h
        · rw [if_pos h]
        · rw [if_neg (by omega), if_pos h]
      · rename_i h; rw [if_neg (fun c => h (Or.inl c)), if_neg (fun c => h (Or.inr c))]
    · rw [mrk_few h1, pref_no (show s.size < eigS.size from by show s.size < 3; omega), pref_no (show s.size < higS.size from by show s.size < 2; omega), pref_no (show s.size < lwoS.size from by show s.size < 2; omega)]
      rfl

set_option maxHeartbeats 400000 in
theorem bmark_any (s : ByteArray) (w : World) (hs : s.size ≤ 9223372036854775807) :
    Calls Tryz.prog 56 #[.string s] w fun e w' => e = .returned (.int .i64 (mrkN s : Nat)) ∧ w = w' := by
  have H1 := Lib.hid (fun W => hasPrefix_any s eigS W hs (by decide))
  have H2 := Lib.hid (fun W => hasPrefix_any s higS W hs (by decide))
  have H3 := Lib.hid (fun W => hasPrefix_any s lwoS W hs (by decide))
  rw [mrk_prog]
  generalize prefB s eigS = p1 at *
  generalize prefB s higS = p2 at *
  generalize prefB s lwoS = p3 at *
  cases p1 <;> cases p2 <;> cases p3
  all_goals
    go_enter Tryz.func56, Tryz.ntmps56
    go_wp2_with (first
      | (go_at_call 80; (with_reducible refine (H1.out _).mono ?_); rintro e w1 ⟨rfl, rfl⟩)
      | (go_at_call 80; (with_reducible refine (H2.out _).mono ?_); rintro e w1 ⟨rfl, rfl⟩)
      | (go_at_call 80; (with_reducible refine (H3.out _).mono ?_); rintro e w1 ⟨rfl, rfl⟩))
    go_ret
    exact ⟨rfl, rfl⟩

theorem threeWays (a b : Bool) : a = false ∨ (a = true ∧ b = false) ∨ (a = true ∧ b = true) := by cases a <;> cases b <;> simp
theorem fourWays (a b c : Bool) : a = false ∨ (a = true ∧ b = false) ∨ (a = true ∧ b = true ∧ c = false) ∨ (a = true ∧ b = true ∧ c = true) := by cases a <;> cases b <;> cases c <;> simp
theorem int_is (b : UInt8) (n : Nat) : ((b.toNat : Int) == (n : Int)) = decide (b.toNat = n) := by
  rw [Bool.eq_iff_iff, beq_iff_eq, decide_eq_true_eq]
  omega

theorem mkU_b (a b : UInt8) : mkU a b = if ((((a.toNat : Int) == 254) && ((b.toNat : Int) == 255)) || (((a.toNat : Int) == 255) && ((b.toNat : Int) == 254))) = true then 2 else 0 := by
  have h0 : ((a.toNat : Int) == 254) = decide (a.toNat = 254) := int_is a 254
  have h1 : ((b.toNat : Int) == 255) = decide (b.toNat = 255) := int_is b 255
  have h2 : ((a.toNat : Int) == 255) = decide (a.toNat = 255) := int_is a 255
  have h3 : ((b.toNat : Int) == 254) = decide (b.toNat = 254) := int_is b 254
  rw [h0, h1, h2, h3]
  unfold mkU
  simp only [Bool.or_eq_true, Bool.and_eq_true, decide_eq_true_eq]
theorem mkT_b (a b c : UInt8) : mkT a b c = if (((a.toNat : Int) == 239) && ((b.toNat : Int) == 187) && ((c.toNat : Int) == 191)) = true then 3 else if ((((a.toNat : Int) == 254) && ((b.toNat : Int) == 255)) || (((a.toNat : Int) == 255) && ((b.toNat : Int) == 254))) = true then 2 else 0 := by
  rw [← mkU_b]
  have h0 : ((a.toNat : Int) == 239) = decide (a.toNat = 239) := int_is a 239
  have h1 : ((b.toNat : Int) == 187) = decide (b.toNat = 187) := int_is b 187
  have h2 : ((c.toNat : Int) == 191) = decide (c.toNat = 191) := int_is c 191
  rw [h0, h1, h2]
  unfold mkT
  simp only [Bool.and_eq_true, decide_eq_true_eq, and_assoc]

set_option maxHeartbeats 4000000 in
theorem rmark_any (s : ByteArray) (w : World) (_hs : s.size ≤ 9223372036854775807) :
    Calls Tryz.prog 50 #[.string s] w fun e w' => e = .returned (.int .i64 (mrkN s : Nat)) ∧ w = w' := by
  by_cases h1 : 1 < s.size
  · have g1 : decide ((1 : Int) < (s.size : Int)) = true := by rw [decide_eq_true_eq]; omega
    by_cases h2 : 2 < s.size
    · have g2 : decide ((2 : Int) < (s.size : Int)) = true := by rw [decide_eq_true_eq]; omega
      have HV := Lib.hid ((mrk_three h2).trans (mkT_b _ _ _))
      generalize mrkN s = v at *
      rcases fourWays ((s[0].toNat : Int) == 239) ((s[1].toNat : Int) == 187) ((s[2].toNat : Int) == 191) with d0 | ⟨d0, d1⟩ | ⟨d0, d1, d2⟩ | ⟨d0, d1, d2⟩
      all_goals rcases threeWays ((s[0].toNat : Int) == 254) ((s[1].toNat : Int) == 255) with d3 | ⟨d3, d4⟩ | ⟨d3, d4⟩
      all_goals rcases threeWays ((s[0].toNat : Int) == 255) ((s[1].toNat : Int) == 254) with d5 | ⟨d5, d6⟩ | ⟨d5, d6⟩
      all_goals
        go_enter Tryz.func50, Tryz.ntmps50
        go_wp2
        go_ret
        exact ⟨by rw [HV.out]; simp only [*]; rfl, rfl⟩
    · have g2 : decide ((2 : Int) < (s.size : Int)) = false := by simp; omega
      have HV := Lib.hid ((mrk_two h2 h1).trans (mkU_b _ _))
      generalize mrkN s = v at *
      rcases threeWays ((s[0].toNat : Int) == 254) ((s[1].toNat : Int) == 255) with d3 | ⟨d3, d4⟩ | ⟨d3, d4⟩
      all_goals rcases threeWays ((s[0].toNat : Int) == 255) ((s[1].toNat : Int) == 254) with d5 | ⟨d5, d6⟩ | ⟨d5, d6⟩
      all_goals
        go_enter Tryz.func50, Tryz.ntmps50
        go_wp2
        go_ret
        exact ⟨by rw [HV.out]; simp only [*]; rfl, rfl⟩
  · have g1 : decide ((1 : Int) < (s.size : Int)) = false := by simp; omega
    have g2 : decide ((2 : Int) < (s.size : Int)) = false := by simp; omega
    rw [mrk_few h1]
    go_enter Tryz.func50, Tryz.ntmps50
    go_wp2
    go_ret
    exact ⟨rfl, rfl⟩

end Go.Proofs.YtkdjjlfpaciohaaGreatDoor
namespace Go.Proofs.YtkdjjlfpaciohaaGreatDoor
open Go.RowKit

abbrev txtS : ByteArray := ⟨#[116, 101, 120, 116, 47, 112, 108, 97, 105, 110]⟩
abbrev octS : ByteArray := ⟨#[97, 112, 112, 108, 105, 99, 97, 116, 105, 111, 110, 47, 111, 99, 116, 101, 116, 45, 115, 116, 114, 101, 97, 109]⟩
/-- The type of some bytes. -/
def rulS (s : ByteArray) : ByteArray := if binF s < s.size ∧ mrkN s = 0 then octS else txtS

set_option maxHeartbeats 1000000 in
theorem brule_any (s : ByteArray) (w : World) (hs : s.size ≤ 9223372036854775807) :
    Calls Tryz.prog 32 #[.string s] w fun e w' => e = .returned (.string (rulS s)) ∧ w = w' := by
  have HF := Lib.hid (fun W => bfirst_any s W hs)
  have HM := Lib.hid (fun W => bmark_any s W hs)
  obtain ⟨o, ho⟩ : ∃ o, o = decide (binF s < s.size) := ⟨_, rfl⟩
  have HV : Hid (rulS s = if o = true ∧ mrkN s = 0 then octS else txtS) := Lib.hid (by unfold rulS; simp only [ho, decide_eq_true_eq])
  rw [← ho] at HF
  clear ho
  generalize rulS s = v at *
  generalize fstN s = f at *
  generalize mrkN s = m at *
  cases o
  · have HV2 : Hid (v = txtS) := Lib.hid (by rw [HV.out, if_neg (fun c => absurd c.1 Bool.noConfusion)])
    clear HV
    go_enter Tryz.func32, Tryz.ntmps32
    go_wp2_with (first
      | (go_at_call 55; (with_reducible refine (HF.out _).mono ?_); rintro e w1 ⟨rfl, rfl⟩)
      | (go_at_call 56; (with_reducible refine (HM.out _).mono ?_); rintro e w1 ⟨rfl, rfl⟩))
    go_ret
    exact ⟨by rw [HV2.out]; first | done | rfl, rfl⟩
  · by_cases hm : m = 0
    · have HV2 : Hid (v = octS) := Lib.hid (by rw [HV.out, if_pos ⟨rfl, hm⟩])
      clear HV
      subst hm
      go_enter Tryz.func32, Tryz.ntmps32
      go_wp2_with (first
        | (go_at_call 55; (with_reducible refine (HF.out _).mono ?_); rintro e w1 ⟨rfl, rfl⟩)
        | (go_at_call 56; (with_reducible refine (HM.out _).mono ?_); rintro e w1 ⟨rfl, rfl⟩))
      go_ret
      exact ⟨by rw [HV2.out]; first | done | rfl, rfl⟩
    · have HV2 : Hid (v = txtS) := Lib.hid (by rw [HV.out, if_neg (fun c => hm c.2)])
      have d : ((m : Int) == 0) = false := by rw [beq_eq_false_iff_ne]; omega
      clear HV
      go_enter Tryz.func32, Tryz.ntmps32
      go_wp2_with (first
        | (go_at_call 55; (with_reducible refine (HF.out _).mono ?_); rintro e w1 ⟨rfl, rfl⟩)
        | (go_at_call 56; (with_reducible refine (HM.out _).mono ?_); rintro e w1 ⟨rfl, rfl⟩))
      go_ret
      exact ⟨by rw [HV2.out]; first | done | rfl, rfl⟩

set_option maxHeartbeats 1000000 in
theorem rrule_any (s : ByteArray) (w : World) (hs : s.size ≤ 9223372036854775807) :
    Calls Tryz.prog 25 #[.string s] w fun e w' => e = .returned (.string (rulS s)) ∧ w = w' := by
  have HF := Lib.hid (fun W => rfirst_any s W hs)
  have HM := Lib.hid (fun W => rmark_any s W hs)
  by_cases hm : 0 < mrkN s
  · have HV2 : Hid (rulS s = txtS) := Lib.hid (by unfold rulS; rw [if_neg (fun c => by omega)])
    generalize rulS s = v at *
    generalize mrkN s = m at *
    have d : decide ((0 : Int) < (m : Int)) = true := by rw [decide_eq_true_eq]; omega
    go_enter Tryz.func25, Tryz.ntmps25
    go_wp2_with (first
      | (go_at_call 50; (with_reducible refine (HM.out _).mono ?_); rintro e w1 ⟨rfl, rfl⟩))
    go_ret
    exact ⟨by rw [HV2.out]; first | done | rfl, rfl⟩
  · have d : decide (0 < mrkN s) = false := decide_eq_false hm
    by_cases hf : binF s < s.size
    · have HV2 : Hid (rulS s = octS) := Lib.hid (by unfold rulS; rw [if_pos ⟨hf, by omega⟩])
      have e : fstI s = (binF s : Nat) := if_pos hf
      rw [e] at HF
      have d2 : decide ((binF s : Int) < 0) = false := by rw [decide_eq_false_iff_not]; omega
      generalize rulS s = v at *
      generalize mrkN s = m at *
      generalize binF s = f at *
      clear e hm hf
      go_enter Tryz.func25, Tryz.ntmps25
      go_wp2_with (first
        | (go_at_call 50; (with_reducible refine (HM.out _).mono ?_); rintro e w1 ⟨rfl, rfl⟩)
        | (go_at_call 49; (with_reducible refine (HF.out _).mono ?_); rintro e w1 ⟨rfl, rfl⟩))
      go_ret
      exact ⟨by rw [HV2.out]; first | done | rfl, rfl⟩
    · have HV2 : Hid (rulS s = txtS) := Lib.hid (by unfold rulS; rw [if_neg (fun c => hf c.1)])
      have e : fstI s = -1 := if_neg hf
      rw [e] at HF
      generalize rulS s = v at *
      generalize mrkN s = m at *
      clear e hm hf
      go_enter Tryz.func25, Tryz.ntmps25
      go_wp2_with (first
        | (go_at_call 50; (with_reducible refine (HM.out _).mono ?_); rintro e w1 ⟨rfl, rfl⟩)
        | (go_at_call 49; (with_reducible refine (HF.out _).mono ?_); rintro e w1 ⟨rfl, rfl⟩))
      go_ret
      exact ⟨by rw [HV2.out]; first | done | rfl, rfl⟩

set_option maxHeartbeats 400000 in
theorem cut19_any (s : ByteArray) (w : World) (_hs : s.size ≤ 9223372036854775807) :
    Calls Tryz.prog 33 #[.string s] w fun e w' => e = .returned (.string (cutB s 1445)) ∧ w = w' := by
  obtain ⟨m, hm⟩ : ∃ m : Nat, m = if 1445 < s.size then 1445 else s.size := ⟨_, rfl⟩
  have hr : ∀ (ts : Array TypeId) (t : TypeId) (w : World), (Builtin.min_ ts t #[.int .i64 (s.size : Nat), .int .i64 1445]).run Tryz.prog w = .ok (.int .i64 (m : Nat)) w := fun ts t w => by
    rw [hm]
    by_cases h : 1445 < s.size
    · rw [if_pos h]
      have h3 : (1445 : Int) < (s.size : Int) := by omega
      simp [Builtin.min_, Builtin.min2, h3]
    · rw [if_neg h]
      by_cases h3 : (s.size : Int) < 1445
      · simp [Builtin.min_, Builtin.min2]; omega
      · have h4 : s.size = 1445 := by omega
        rw [h4]
        simp [Builtin.min_, Builtin.min2]
  have hm2 : m ≤ s.size := by rw [hm]; split <;> omega
  have HV : Hid (cutB s 1445 = s.extract 0 m) := Lib.hid (by
    unfold cutB
    rw [hm]
    split
    · rfl
    · exact ByteArray.extract_zero_size.symm)
  clear hm
  generalize cutB s 1445 = v at *
  go_enter Tryz.func33, Tryz.ntmps33
  go_wp2
  go_ret
  exact ⟨by rw [HV.out]; first | done | rfl, rfl⟩

set_option maxHeartbeats 400000 in
theorem rcut19_any (s : ByteArray) (w : World) (_hs : s.size ≤ 9223372036854775807) :
    Calls Tryz.prog 26 #[.string s] w fun e w' => e = .returned (.string (cutB s 1445)) ∧ w = w' := by
  by_cases h : 1445 < s.size
  · have hx : Hid (cutB s 1445 = s.extract 0 1445) := Lib.hid (by simp [cutB, h])
    have h1 : decide ((1445 : Int) < (s.size : Int)) = true := by rw [decide_eq_true_eq]; omega
    generalize cutB s 1445 = v at *
    go_enter Tryz.func26, Tryz.ntmps26
    go_wp2
    go_ret
    exact ⟨by rw [hx.out]; first | done | rfl, rfl⟩
  · have hx : Hid (cutB s 1445 = s) := Lib.hid (by simp [cutB, h])
    have h1 : decide ((1445 : Int) < (s.size : Int)) = false := by rw [decide_eq_false_iff_not]; omega
    generalize cutB s 1445 = v at *
    go_enter Tryz.func26, Tryz.ntmps26
    go_wp2
    go_ret
    exact ⟨by rw [hx.out]; first | done | rfl, rfl⟩

end Go.Proofs.YtkdjjlfpaciohaaGreatDoor

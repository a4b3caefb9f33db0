/-
  What Trim and Ends answer, and those of the document's own answer. Condition: the text is as long as a length can be.
-/
import Derived.Test.YtmepnfkgfbbkiaaGreatClass1
import Derived.Test.YtmepnfkgfbbkiaaGreatTexts
import Derived.LoopTactic
namespace Go.Proofs.YtmepnfkgfbbkiaaGreat
open Go.RowKit

set_option maxHeartbeats 1000000 in
theorem cutBack_white (s : ByteArray) (w : World) (hs : s.size ≤ 9223372036854775807) :
    Calls Tryz.prog 56 #[.string s, .func (.func 55) #[] #[]] w fun e w' => e = .returned (.string (cutP whiB s)) ∧ w = w' := by
  go_enter Tryz.func56, Tryz.ntmps56
  go_wp2
  go_loop [5] (fun i => ∃ k : Nat, k ≤ s.size ∧ i = .int .i64 k ∧ backN whiB s k = backN whiB s s.size) (fun i => (intOf i).toNat)
  case atStart => exact ⟨s.size, Nat.le_refl _, rfl, rfl⟩
  case round =>
    obtain ⟨k, hk, rfl, hb⟩ := hrel
    have HB := Lib.hid hb
    clear hb
    cases k with
    | zero =>
      have HE := Lib.hid (show cutP whiB s = ByteArray.empty from by unfold cutP; rw [← HB.out]; simp [backN])
      go_wp2
      go_ret
      exact ⟨by rw [HE.out]; rfl, rfl⟩
    | succ m =>
      have hm : m < s.size := by omega
      have g1 : (0 : Int) < (m : Int) + 1 := by omega
      have g2 : ((m + 1 : Nat) : Int) - 1 = (m : Int) := by omega
      have HL := Lib.hid (fun W => white_any s[m] W)
      cases hb : whiB s[m]
      · have HE := Lib.hid (show cutP whiB s = s.extract 0 (m + 1) from by unfold cutP; rw [← HB.out, backN_stop hm hb])
        have HL2 : Hid (∀ W, Calls Tryz.prog 55 #[.int .u8 (s[m].toNat : Int)] W fun e w' => e = .returned (.bool false) ∧ W = w') := fun W => by have := HL.out W; rwa [hb] at this
        clear HL hb
        go_wp2_with (go_at_call 55; refine (HL2.out _).mono ?_; rintro e w' ⟨rfl, rfl⟩)
        go_ret
        exact ⟨by rw [HE.out]; rfl, rfl⟩
      · have HE : Hid (backN whiB s (m + 1) = backN whiB s m) := backN_step hm hb
        have HL2 : Hid (∀ W, Calls Tryz.prog 55 #[.int .u8 (s[m].toNat : Int)] W fun e w' => e = .returned (.bool true) ∧ W = w') := fun W => by have := HL.out W; rwa [hb] at this
        clear HL hb
        go_wp2_with (go_at_call 55; refine (HL2.out _).mono ?_; rintro e w' ⟨rfl, rfl⟩)
        go_round
        case rel => exact ⟨m, by omega, by go_num, HE.out.symm.trans HB.out⟩
        case measure => first | (simp [intOf]; done) | (simp [intOf]; omega)

set_option maxHeartbeats 1000000 in
theorem cutBack_tab (s : ByteArray) (w : World) (hs : s.size ≤ 9223372036854775807) :
    Calls Tryz.prog 56 #[.string s, .func (.func 71) #[] #[]] w fun e w' => e = .returned (.string (cutP tabB s)) ∧ w = w' := by
  go_enter Tryz.func56, Tryz.ntmps56
  go_wp2
  go_loop [5] (fun i => ∃ k : Nat, k ≤ s.size ∧ i = .int .i64 k ∧ backN tabB s k = backN tabB s s.size) (fun i => (intOf i).toNat)
  case atStart => exact ⟨s.size, Nat.le_refl _, rfl, rfl⟩
  case round =>
    obtain ⟨k, hk, rfl, hb⟩ := hrel
    have HB := Lib.hid hb
    clear hb
    cases k with
    | zero =>
      have HE := Lib.hid (show cutP tabB s = ByteArray.empty from by unfold cutP; rw [← HB.out]; simp [backN])
      go_wp2
      go_ret
      exact ⟨by rw [HE.out]; rfl, rfl⟩
    | succ m =>
      have hm : m < s.size := by omega
      have g1 : (0 : Int) < (m : Int) + 1 := by omega
      have g2 : ((m + 1 : Nat) : Int) - 1 = (m : Int) := by omega
      have HL := Lib.hid (fun W => tab_any s[m] W)
      cases hb : tabB s[m]
      · have HE := Lib.hid (show cutP tabB s = s.extract 0 (m + 1) from by unfold cutP; rw [← HB.out, backN_stop hm hb])
        have HL2 : Hid (∀ W, Calls Tryz.prog 71 #[.int .u8 (s[m].toNat : Int)] W fun e w' => e = .returned (.bool false) ∧ W = w') := fun W => by have := HL.out W; rwa [hb] at this
        clear HL hb
        go_wp2_with (go_at_call 71; refine (HL2.out _).mono ?_; rintro e w' ⟨rfl, rfl⟩)
        go_ret
        exact ⟨by rw [HE.out]; rfl, rfl⟩
      · have HE : Hid (backN tabB s (m + 1) = backN tabB s m) := backN_step hm hb
        have HL2 : Hid (∀ W, Calls Tryz.prog 71 #[.int .u8 (s[m].toNat : Int)] W fun e w' => e = .returned (.bool true) ∧ W = w') := fun W => by have := HL.out W; rwa [hb] at this
        clear HL hb
        go_wp2_with (go_at_call 71; refine (HL2.out _).mono ?_; rintro e w' ⟨rfl, rfl⟩)
        go_round
        case rel => exact ⟨m, by omega, by go_num, HE.out.symm.trans HB.out⟩
        case measure => first | (simp [intOf]; done) | (simp [intOf]; omega)

set_option maxHeartbeats 1000000 in
theorem ends_any (s : ByteArray) (w : World) (hs : s.size ≤ 9223372036854775807) :
    Calls Tryz.prog 73 #[.string s] w fun e w' => e = .returned (.string (cutP tabB s)) ∧ w = w' := by
  go_enter Tryz.func73, Tryz.ntmps73
  go_wp2_with (go_at_call 56; refine (cutBack_tab s _ hs).mono ?_; rintro e w' ⟨rfl, rfl⟩)
  go_ret
  exact ⟨rfl, rfl⟩

set_option maxHeartbeats 1000000 in
theorem trim_any (s : ByteArray) (w : World) (hs : s.size ≤ 9223372036854775807) :
    Calls Tryz.prog 33 #[.string s] w fun e w' => e = .returned (.string (trimP whiB s)) ∧ w = w' := by
  go_enter Tryz.func33, Tryz.ntmps33
  go_wp2
  go_loop [3] (fun i => ∃ k : Nat, k ≤ s.size ∧ i = .int .i64 k ∧ scan whiB s k = scan whiB s 0) (fun i => s.size - (intOf i).toNat)
  case atStart => exact ⟨0, by omega, rfl, rfl⟩
  case round =>
    obtain ⟨k, hk, rfl, hb⟩ := hrel
    have HB := Lib.hid hb
    clear hb
    by_cases hlt : k < s.size
    · have HL := Lib.hid (fun W => white_any s[k] W)
      cases hb : whiB s[k]
      · have HT := Lib.hid (show trimP whiB s = cutP whiB (s.extract k s.size) from by unfold trimP; rw [← HB.out, scan_stop hlt hb])
        have HL2 : Hid (∀ W, Calls Tryz.prog 55 #[.int .u8 (s[k].toNat : Int)] W fun e w' => e = .returned (.bool false) ∧ W = w') := fun W => by have := HL.out W; rwa [hb] at this
        clear HL hb
        go_wp2_with (first
          | (go_at_call 55; refine (HL2.out _).mono ?_; rintro e w' ⟨rfl, rfl⟩)
          | (go_at_call 56; refine (cutBack_white _ _ (by simp; omega)).mono ?_; rintro e w' ⟨rfl, rfl⟩))
        go_ret
        exact ⟨by rw [HT.out]; rfl, rfl⟩
      · have HE : Hid (scan whiB s (k + 1) = scan whiB s k) := scan_step hlt hb
        have HL2 : Hid (∀ W, Calls Tryz.prog 55 #[.int .u8 (s[k].toNat : Int)] W fun e w' => e = .returned (.bool true) ∧ W = w') := fun W => by have := HL.out W; rwa [hb] at this
        clear HL hb
        go_wp2_with (go_at_call 55; refine (HL2.out _).mono ?_; rintro e w' ⟨rfl, rfl⟩)
        go_round
        case rel => exact ⟨k + 1, by omega, by go_num, HE.out.trans HB.out⟩
        case measure => simp [intOf]; omega
    · obtain rfl : k = s.size := by omega
      have HT := Lib.hid (show trimP whiB s = cutP whiB ByteArray.empty from by unfold trimP; rw [← HB.out, scan_end rfl]; congr 1; simp)
      go_wp2_with (go_at_call 56; refine (cutBack_white _ _ (by simp)).mono ?_; rintro e w' ⟨rfl, rfl⟩)
      go_ret
      exact ⟨by rw [HT.out]; rfl, rfl⟩

/-- How long a text is. -/
def strLen : Value → Nat
  | .string s => s.size
  | _ => 0

set_option maxHeartbeats 1000000 in
theorem refEnds_any (s : ByteArray) (w : World) (hs : s.size ≤ 9223372036854775807) :
    Calls Tryz.prog 75 #[.string s] w fun e w' => e = .returned (.string (cutP tabB s)) ∧ w = w' := by
  go_enter Tryz.func75, Tryz.ntmps75
  go_wp2
  go_loop [0] (fun i => ∃ (m : Nat) (x : ByteArray), m ≤ s.size ∧ i = .string x ∧ x = s.extract 0 m ∧ backN tabB s m = backN tabB s s.size) (fun i => strLen i)
  case atStart => exact ⟨s.size, s, Nat.le_refl _, rfl, (extract_all s).symm, rfl⟩
  case round =>
    obtain ⟨m, x, hm, rfl, hx, hb⟩ := hrel
    have HB := Lib.hid hb
    have HX := Lib.hid hx
    clear hb
    have hz : x.size = m := by rw [hx]; simp; omega
    clear hx
    cases m with
    | zero =>
      have HE := Lib.hid (show cutP tabB s = x from by unfold cutP; rw [← HB.out, HX.out]; rfl)
      go_wp2
      go_ret
      exact ⟨by rw [HE.out]; rfl, rfl⟩
    | succ n =>
      have hn : n < x.size := by omega
      have g1 : (0 : Int) < (n : Int) + 1 := by omega
      have g2 : ((n + 1 : Nat) : Int) - 1 = (n : Int) := by omega
      have HA := Lib.hid (show x[n] = s[n]'(by omega) from by
        rw [← getElem!_pos x n hn, ← getElem!_pos s n (by omega), HX.out, extract_at (by rw [← HX.out]; exact hn), Nat.zero_add])
      have HL := Lib.hid (fun W => refTab_any x[n] W)
      cases hb : tabB x[n]
      · have HE := Lib.hid (show cutP tabB s = x from by unfold cutP; rw [← HB.out, backN_stop (by omega) (by rw [← HA.out]; exact hb), HX.out])
        have HL2 : Hid (∀ W, Calls Tryz.prog 76 #[.int .u8 (x[n].toNat : Int)] W fun e w' => e = .returned (.bool false) ∧ W = w') := fun W => by have := HL.out W; rwa [hb] at this
        clear HL hb
        go_wp2_with (go_at_call 76; refine (HL2.out _).mono ?_; rintro e w' ⟨rfl, rfl⟩)
        go_ret
        exact ⟨by rw [HE.out]; rfl, rfl⟩
      · have HE := Lib.hid (show backN tabB s (n + 1) = backN tabB s n from backN_step (by omega) (by rw [← HA.out]; exact hb))
        have HL2 : Hid (∀ W, Calls Tryz.prog 76 #[.int .u8 (x[n].toNat : Int)] W fun e w' => e = .returned (.bool true) ∧ W = w') := fun W => by have := HL.out W; rwa [hb] at this
        clear HL hb
        go_wp2_with (go_at_call 76; refine (HL2.out _).mono ?_; rintro e w' ⟨rfl, rfl⟩)
        go_round
        case rel => exact ⟨n, x.extract 0 n, by omega, rfl, by rw [HX.out, extract_head (by omega)], HE.out.symm.trans HB.out⟩
        case measure => simp [strLen]; omega

set_option maxHeartbeats 2000000 in
theorem refTrim_any (s : ByteArray) (w : World) (hs : s.size ≤ 9223372036854775807) :
    Calls Tryz.prog 40 #[.string s] w fun e w' => e = .returned (.string (trimP whiB s)) ∧ w = w' := by
  go_enter Tryz.func40, Tryz.ntmps40
  go_wp2
  go_loop [0] (fun i => ∃ (k : Nat) (x : ByteArray), k ≤ s.size ∧ i = .string x ∧ x = s.extract k s.size ∧ scan whiB s k = scan whiB s 0) (fun i => strLen i)
  case atStart => exact ⟨0, s, Nat.zero_le _, rfl, (extract_all s).symm, rfl⟩
  case round =>
    obtain ⟨k, x, hk, rfl, hx, hb⟩ := hrel
    have HB := Lib.hid hb
    have HX := Lib.hid hx
    clear hb
    have hz : x.size = s.size - k := by rw [hx]; simp
    have hzs : x.size ≤ 9223372036854775807 := by omega
    clear hx
    by_cases hlt : k < s.size
    · have hx0 : 0 < x.size := by omega
      have HZ := Lib.hid hz
      clear hz
      have g1 : (0 : Int) < (x.size : Int) := by omega
      have HA := Lib.hid (show x[0] = s[k] from by
        rw [← getElem!_pos x 0 hx0, ← getElem!_pos s k hlt, HX.out, extract_at (by rw [← HX.out]; exact hx0), Nat.add_zero])
      have HL := Lib.hid (fun W => refWhite_any x[0] W)
      cases hb : whiB x[0]
      · have HT := Lib.hid (show trimP whiB s = cutP whiB x from by unfold trimP; rw [← HB.out, scan_stop hlt (by rw [← HA.out]; exact hb), HX.out])
        have HL2 : Hid (∀ W, Calls Tryz.prog 45 #[.int .u8 (x[0].toNat : Int)] W fun e w' => e = .returned (.bool false) ∧ W = w') := fun W => by have := HL.out W; rwa [hb] at this
        clear HL hb
        go_wp2_with (go_at_call 45; refine (HL2.out _).mono ?_; rintro e w' ⟨rfl, rfl⟩)
        go_loop [0] (fun i => ∃ (m : Nat) (y : ByteArray), m ≤ x.size ∧ i = .string y ∧ y = x.extract 0 m ∧ backN whiB x m = backN whiB x x.size) (fun i => strLen i)
        case atStart => exact ⟨x.size, x, Nat.le_refl _, rfl, (extract_all x).symm, rfl⟩
        case round =>
          obtain ⟨m, y, hm, rfl, hy, hb⟩ := hrel
          have HB := Lib.hid hb
          have HY := Lib.hid hy
          clear hb
          have hzy : y.size = m := by rw [hy]; simp; omega
          have HM := Lib.hid hm
          clear hy hm
          cases m with
          | zero =>
            have HE := Lib.hid (show cutP whiB x = y from by unfold cutP; rw [← HB.out, HY.out]; rfl)
            go_wp2
            go_ret
            exact ⟨by rw [HT.out, HE.out]; rfl, rfl⟩
          | succ n =>
            have hn : n < y.size := by omega
            have hnx : n < x.size := by have := HM.out; omega
            have g1 : (0 : Int) < (n : Int) + 1 := by omega
            have g2 : ((n + 1 : Nat) : Int) - 1 = (n : Int) := by omega
            have HA := Lib.hid (show y[n] = x[n]'hnx from by
              rw [← getElem!_pos y n hn, ← getElem!_pos x n hnx, HY.out, extract_at (by rw [← HY.out]; exact hn), Nat.zero_add])
            have HL := Lib.hid (fun W => refWhite_any y[n] W)
            cases hb : whiB y[n]
            · have HE := Lib.hid (show cutP whiB x = y from by unfold cutP; rw [← HB.out, backN_stop hnx (by rw [← HA.out]; exact hb), HY.out])
              have HL2 : Hid (∀ W, Calls Tryz.prog 45 #[.int .u8 (y[n].toNat : Int)] W fun e w' => e = .returned (.bool false) ∧ W = w') := fun W => by have := HL.out W; rwa [hb] at this
              clear HL hb
              go_wp2_with (go_at_call 45; refine (HL2.out _).mono ?_; rintro e w' ⟨rfl, rfl⟩)
              go_ret
              exact ⟨by rw [HT.out, HE.out]; rfl, rfl⟩
            · have HE := Lib.hid (show backN whiB x (n + 1) = backN whiB x n from backN_step hnx (by rw [← HA.out]; exact hb))
              have HL2 : Hid (∀ W, Calls Tryz.prog 45 #[.int .u8 (y[n].toNat : Int)] W fun e w' => e = .returned (.bool true) ∧ W = w') := fun W => by have := HL.out W; rwa [hb] at this
              clear HL hb
              go_wp2_with (go_at_call 45; refine (HL2.out _).mono ?_; rintro e w' ⟨rfl, rfl⟩)
              go_round
              case rel => exact ⟨n, y.extract 0 n, by omega, rfl, by rw [HY.out, extract_head (by omega)], HE.out.symm.trans HB.out⟩
              case measure => simp [strLen]; omega
      · have HE := Lib.hid (show scan whiB s (k + 1) = scan whiB s k from scan_step hlt (by rw [← HA.out]; exact hb))
        have HL2 : Hid (∀ W, Calls Tryz.prog 45 #[.int .u8 (x[0].toNat : Int)] W fun e w' => e = .returned (.bool true) ∧ W = w') := fun W => by have := HL.out W; rwa [hb] at this
        clear HL hb
        go_wp2_with (go_at_call 45; refine (HL2.out _).mono ?_; rintro e w' ⟨rfl, rfl⟩)
        go_round
        case rel => exact ⟨k + 1, x.extract 1 x.size, by omega, rfl, by rw [HX.out, extract_tail hlt], HE.out.trans HB.out⟩
        case measure => simp [strLen]; omega
    · have HT := Lib.hid (show trimP whiB s = cutP whiB x from by unfold trimP; rw [← HB.out, scan_end (by omega), HX.out])
      have hx0 : x.size = 0 := by omega
      clear hz hzs
      have hxe : x = ByteArray.empty := by
        cases x with | mk d => have : d = #[] := Array.eq_empty_of_size_eq_zero hx0; rw [this]; rfl
      subst hxe
      have HE := Lib.hid (show cutP whiB ByteArray.empty = ByteArray.empty from by unfold cutP; simp)
      go_wp2
      refine wp_loop_rounds 1 ?_
      rw [rounds_succ]
      go_wp2
      go_ret
      exact ⟨by rw [HT.out, HE.out]; rfl, rfl⟩

end Go.Proofs.YtmepnfkgfbbkiaaGreat

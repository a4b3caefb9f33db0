/-
  The law JnumScans returns true of every text. Condition: the text is as long as a length can be.
-/
import Derived.Test.YthiclminkbnibaaDoorJvl
import Derived.Deep.RegionWith
namespace Go.Proofs.YthiclminkbnibaaDoor
open Go.RowKit

theorem lng_full {s : ByteArray} (h : 0 < lng s s.size) : staT (s.extract 0 (lng s s.size)) = 2 := by
  refine staT_full ?_
  rw [isB_head (lng_le s s.size)]
  rcases lng_ends s s.size with e | e
  · omega
  · exact e

set_option maxHeartbeats 4000000 in
set_option maxRecDepth 100000 in
theorem jnumScans_any (s : ByteArray) (w : World) (hs : s.size ≤ 9223372036854775807) :
    Calls Tryd.prog 3 #[.string s] w fun e w' => e = .returned (.bool true) ∧ Below w.heap.size w w' := by
  have HC : Hid (∀ W, Calls Tryd.prog 6 #[.string s, .int .i64 60] W fun e w' => e = .returned (.string (cutB s 60)) ∧ W = w') := fun W => cut_any s 60 W hs
  have hu := cutB_size s 60
  generalize cutB s 60 = u at *
  have HS := Lib.hid fun W => scan_any u W (by omega)
  have HR := Lib.hid fun W => refScan_any u W (by omega)
  have HT : Hid (∀ (k : Nat) (W : World), k ≤ u.size → Calls Tryd.prog 9 #[.string (u.extract 0 k)] W fun e w' => e = .returned (.int .i64 (staT (u.extract 0 k))) ∧ Below W.heap.size W w') := fun k W hk => state_any (u.extract 0 k) W (by simp only [ByteArray.size_extract]; omega)
  have HU : Hid (∀ (k : Nat) (W : World), k ≤ u.size → Calls Tryd.prog 10 #[.string (u.extract 0 k)] W fun e w' => e = .returned (.int .i64 (staT (u.extract 0 k))) ∧ W = w') := fun k W hk => refState_any (u.extract 0 k) W (by simp only [ByteArray.size_extract]; omega)
  have hle := lng_le u u.size
  have HF := Lib.hid (@lng_full u)
  obtain ⟨n, hn⟩ : ∃ n, n = lng u u.size := ⟨_, rfl⟩
  rw [← hn] at HS HR hle HF
  clear hn hs
  have HL := Lib.hid fun W => lives9_any W
  by_cases h0 : 0 < n
  · have d1 : decide (0 < n) = true := decide_eq_true h0
    have d2 : decide ((0 : Int) < (n : Int)) = true := decide_eq_true (by omega)
    rw [d1] at HS
    have HF2 := Lib.hid (HF.out h0)
    clear HF h0
    go_enter Tryd.func3, Tryd.ntmps3
    go_wp2_with (first
      | (go_at_call 6; refine (HC.out _).mono ?_; rintro e w' ⟨rfl, rfl⟩)
      | (go_at_call 7; refine (HS.out _).mono ?_; rintro e w1 ⟨rfl, hb1⟩)
      | (go_at_call 8; refine (HR.out _).mono ?_; rintro e w' ⟨rfl, rfl⟩))
    have HB1 := Lib.hid hb1
    clear hb1
    go_loopw [6] (fun v wr => ∃ k : Nat, k ≤ u.size + 1 ∧ v = .int .i64 k ∧ Hid (Below w.heap.size w wr)) (fun v _ => u.size + 1 - (intOf v).toNat)
    case atStart => exact ⟨0, by omega, rfl, HB1⟩
    case round =>
      obtain ⟨k, hk, rfl, HW⟩ := hrel
      clear HB1
      by_cases hlt : k ≤ u.size
      · have e1 : decide ((k : Int) ≤ (u.size : Int)) = true := decide_eq_true (by omega)
        have e2 : decide (k ≤ u.size) = true := decide_eq_true hlt
        have HTk := Lib.hid fun W => HT.out k W hlt
        have HUk := Lib.hid fun W => HU.out k W hlt
        generalize staT (u.extract 0 k) = st at *
        go_wp2
        go_region_with (first
          | (go_at_call 9; (with_reducible refine (HTk.out _).mono ?_); rintro e w2 ⟨rfl, hb2⟩)
          | (go_at_call 10; (with_reducible refine (HUk.out _).mono ?_); rintro e w' ⟨rfl, rfl⟩))
        all_goals
          have HW2 := Lib.hid ((Below.drewN' HW.out 1).trans (hb2.mono HW.out.size))
          go_wp2
          go_roundw
          case rel => exact ⟨k + 1, by omega, by go_num, HW2⟩
          case measure => simp [intOf]; omega
      · have e1 : decide ((k : Int) ≤ (u.size : Int)) = false := decide_eq_false (by omega)
        have e2 : decide (k ≤ u.size) = false := decide_eq_false hlt
        have HTn := Lib.hid fun W => HT.out n W hle
        rw [HF2.out] at HTn
        clear HF2
        go_wp2_with (first
          | (go_at_call 9; (with_reducible refine (HTn.out _).mono ?_); rintro e w2 ⟨rfl, hb2⟩)
          | (go_at_call 11; (with_reducible refine (HL.out _).mono ?_); rintro e w3 ⟨rfl, hb3⟩))
        go_ret
        exact ⟨rfl, HW.out.trans ((hb2.trans (hb3.mono hb2.size)).mono HW.out.size)⟩
  · obtain rfl : n = 0 := by omega
    have d1 : decide (0 < 0) = false := rfl
    rw [d1] at HS
    clear HF h0 d1
    go_enter Tryd.func3, Tryd.ntmps3
    go_wp2_with (first
      | (go_at_call 6; refine (HC.out _).mono ?_; rintro e w' ⟨rfl, rfl⟩)
      | (go_at_call 7; refine (HS.out _).mono ?_; rintro e w1 ⟨rfl, hb1⟩)
      | (go_at_call 8; refine (HR.out _).mono ?_; rintro e w' ⟨rfl, rfl⟩))
    have HB1 := Lib.hid hb1
    clear hb1
    go_loopw [6] (fun v wr => ∃ k : Nat, k ≤ u.size + 1 ∧ v = .int .i64 k ∧ Hid (Below w.heap.size w wr)) (fun v _ => u.size + 1 - (intOf v).toNat)
    case atStart => exact ⟨0, by omega, rfl, HB1⟩
    case round =>
      obtain ⟨k, hk, rfl, HW⟩ := hrel
      clear HB1
      by_cases hlt : k ≤ u.size
      · have e1 : decide ((k : Int) ≤ (u.size : Int)) = true := decide_eq_true (by omega)
        have e2 : decide (k ≤ u.size) = true := decide_eq_true hlt
        have HTk := Lib.hid fun W => HT.out k W hlt
        have HUk := Lib.hid fun W => HU.out k W hlt
        generalize staT (u.extract 0 k) = st at *
        go_wp2
        go_region_with (first
          | (go_at_call 9; (with_reducible refine (HTk.out _).mono ?_); rintro e w2 ⟨rfl, hb2⟩)
          | (go_at_call 10; (with_reducible refine (HUk.out _).mono ?_); rintro e w' ⟨rfl, rfl⟩))
        all_goals
          have HW2 := Lib.hid ((Below.drewN' HW.out 1).trans (hb2.mono HW.out.size))
          go_wp2
          go_roundw
          case rel => exact ⟨k + 1, by omega, by go_num, HW2⟩
          case measure => simp [intOf]; omega
      · have e1 : decide ((k : Int) ≤ (u.size : Int)) = false := decide_eq_false (by omega)
        have e2 : decide (k ≤ u.size) = false := decide_eq_false hlt
        go_wp2_with (first
          | (go_at_call 11; (with_reducible refine (HL.out _).mono ?_); rintro e w3 ⟨rfl, hb3⟩))
        go_ret
        exact ⟨rfl, HW.out.trans (hb3.mono HW.out.size)⟩

end Go.Proofs.YthiclminkbnibaaDoor

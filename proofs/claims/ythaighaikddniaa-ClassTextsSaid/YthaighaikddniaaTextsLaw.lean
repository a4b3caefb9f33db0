/-
  The law ClassTexts returns true of any two texts. Condition: the texts are as long as a length can be.
-/
import Derived.Test.YthaighaikddniaaClass2
import Derived.Test.YthaighaikddniaaClass3
import Derived.Test.YthaighaikddniaaCut
namespace Go.Proofs.Ythaighaikddniaa
open Go.RowKit

set_option maxHeartbeats 2000000 in
theorem classTexts_fits (s t u v L M N T E : ByteArray) (w : World) (_hu : u.size ≤ 100) (_hv : v.size ≤ 100) (hz : v.size ≤ u.size)
    (HCS : Hid (∀ W, Below w.heap.size w W → Calls Try.prog 21 #[.string s, .int .i64 100] W fun e w' => e = .returned (.string u) ∧ Below w.heap.size w w'))
    (HCT : Hid (∀ W, Below w.heap.size w W → Calls Try.prog 21 #[.string t, .int .i64 100] W fun e w' => e = .returned (.string v) ∧ Below w.heap.size w w'))
    (HL : Hid (∀ W, Below w.heap.size w W → Calls Try.prog 22 #[.string u] W fun e w' => e = .returned (.string L) ∧ Below w.heap.size w w'))
    (HLL : Hid (∀ W, Below w.heap.size w W → Calls Try.prog 22 #[.string L] W fun e w' => e = .returned (.string L) ∧ Below w.heap.size w w'))
    (HRL : Hid (∀ W, Below w.heap.size w W → Calls Try.prog 25 #[.string u] W fun e w' => e = .returned (.string L) ∧ Below w.heap.size w w'))
    (HRM : Hid (∀ W, Below w.heap.size w W → Calls Try.prog 25 #[.string v] W fun e w' => e = .returned (.string M) ∧ Below w.heap.size w w'))
    (HRN : Hid (∀ W, Below w.heap.size w W → Calls Try.prog 25 #[.string (u.extract 0 v.size)] W fun e w' => e = .returned (.string N) ∧ Below w.heap.size w w'))
    (HT : Hid (∀ W, Below w.heap.size w W → Calls Try.prog 23 #[.string u] W fun e w' => e = .returned (.string T) ∧ Below w.heap.size w w'))
    (HTT : Hid (∀ W, Below w.heap.size w W → Calls Try.prog 23 #[.string T] W fun e w' => e = .returned (.string T) ∧ Below w.heap.size w w'))
    (HRT : Hid (∀ W, Below w.heap.size w W → Calls Try.prog 26 #[.string u] W fun e w' => e = .returned (.string T) ∧ Below w.heap.size w w'))
    (HE : Hid (∀ W, Below w.heap.size w W → Calls Try.prog 24 #[.string u] W fun e w' => e = .returned (.string E) ∧ Below w.heap.size w w'))
    (HEE : Hid (∀ W, Below w.heap.size w W → Calls Try.prog 24 #[.string E] W fun e w' => e = .returned (.string E) ∧ Below w.heap.size w w'))
    (HRE : Hid (∀ W, Below w.heap.size w W → Calls Try.prog 27 #[.string u] W fun e w' => e = .returned (.string E) ∧ Below w.heap.size w w'))
    (HSM : Hid (∀ W, Below w.heap.size w W → Calls Try.prog 28 #[.string u, .string v] W fun e w' => e = .returned (.bool (L.toList == M.toList)) ∧ Below w.heap.size w w'))
    (HBG : Hid (∀ W, Below w.heap.size w W → Calls Try.prog 29 #[.string u, .string v] W fun e w' => e = .returned (.bool (N.toList == M.toList)) ∧ Below w.heap.size w w'))
    (HLV : Hid (∀ W, Below w.heap.size w W → Calls Try.prog 20 #[] W fun e w' => e = .returned (.bool true) ∧ Below w.heap.size w w')) :
    Calls Try.prog 4 #[.string s, .string t] w fun e w' => e = .returned (.bool true) ∧ Below w.heap.size w w' := by
  have hb0 := Below.refl w.heap.size w
  go_enter Try.func4, Try.ntmps4
  go_wp2_with (first
    | (go_at_call 21; with_reducible refine (HCS.out _ (by assumption)).mono ?_; rintro e w1 ⟨rfl, hb1⟩)
    | (go_at_call 21; with_reducible refine (HCT.out _ (by assumption)).mono ?_; rintro e w1 ⟨rfl, hb1⟩)
    | (go_at_call 22; with_reducible refine (HL.out _ (by assumption)).mono ?_; rintro e w1 ⟨rfl, hb1⟩)
    | (go_at_call 22; with_reducible refine (HLL.out _ (by assumption)).mono ?_; rintro e w1 ⟨rfl, hb1⟩)
    | (go_at_call 25; with_reducible refine (HRL.out _ (by assumption)).mono ?_; rintro e w1 ⟨rfl, hb1⟩)
    | (go_at_call 25; with_reducible refine (HRM.out _ (by assumption)).mono ?_; rintro e w1 ⟨rfl, hb1⟩)
    | (go_at_call 25; with_reducible refine (HRN.out _ (by assumption)).mono ?_; rintro e w1 ⟨rfl, hb1⟩)
    | (go_at_call 23; with_reducible refine (HT.out _ (by assumption)).mono ?_; rintro e w1 ⟨rfl, hb1⟩)
    | (go_at_call 23; with_reducible refine (HTT.out _ (by assumption)).mono ?_; rintro e w1 ⟨rfl, hb1⟩)
    | (go_at_call 26; with_reducible refine (HRT.out _ (by assumption)).mono ?_; rintro e w1 ⟨rfl, hb1⟩)
    | (go_at_call 24; with_reducible refine (HE.out _ (by assumption)).mono ?_; rintro e w1 ⟨rfl, hb1⟩)
    | (go_at_call 24; with_reducible refine (HEE.out _ (by assumption)).mono ?_; rintro e w1 ⟨rfl, hb1⟩)
    | (go_at_call 27; with_reducible refine (HRE.out _ (by assumption)).mono ?_; rintro e w1 ⟨rfl, hb1⟩)
    | (go_at_call 28; with_reducible refine (HSM.out _ (by assumption)).mono ?_; rintro e w1 ⟨rfl, hb1⟩)
    | (go_at_call 29; with_reducible refine (HBG.out _ (by assumption)).mono ?_; rintro e w1 ⟨rfl, hb1⟩)
    | (go_at_call 20; with_reducible refine (HLV.out _ (by assumption)).mono ?_; rintro e w1 ⟨rfl, hb1⟩))
  go_ret
  exact ⟨rfl, by assumption⟩

set_option maxHeartbeats 2000000 in
theorem classTexts_long (s t u v L M T E : ByteArray) (w : World) (_hu : u.size ≤ 100) (_hv : v.size ≤ 100) (hz : u.size < v.size)
    (HCS : Hid (∀ W, Below w.heap.size w W → Calls Try.prog 21 #[.string s, .int .i64 100] W fun e w' => e = .returned (.string u) ∧ Below w.heap.size w w'))
    (HCT : Hid (∀ W, Below w.heap.size w W → Calls Try.prog 21 #[.string t, .int .i64 100] W fun e w' => e = .returned (.string v) ∧ Below w.heap.size w w'))
    (HL : Hid (∀ W, Below w.heap.size w W → Calls Try.prog 22 #[.string u] W fun e w' => e = .returned (.string L) ∧ Below w.heap.size w w'))
    (HLL : Hid (∀ W, Below w.heap.size w W → Calls Try.prog 22 #[.string L] W fun e w' => e = .returned (.string L) ∧ Below w.heap.size w w'))
    (HRL : Hid (∀ W, Below w.heap.size w W → Calls Try.prog 25 #[.string u] W fun e w' => e = .returned (.string L) ∧ Below w.heap.size w w'))
    (HRM : Hid (∀ W, Below w.heap.size w W → Calls Try.prog 25 #[.string v] W fun e w' => e = .returned (.string M) ∧ Below w.heap.size w w'))
    (HT : Hid (∀ W, Below w.heap.size w W → Calls Try.prog 23 #[.string u] W fun e w' => e = .returned (.string T) ∧ Below w.heap.size w w'))
    (HTT : Hid (∀ W, Below w.heap.size w W → Calls Try.prog 23 #[.string T] W fun e w' => e = .returned (.string T) ∧ Below w.heap.size w w'))
    (HRT : Hid (∀ W, Below w.heap.size w W → Calls Try.prog 26 #[.string u] W fun e w' => e = .returned (.string T) ∧ Below w.heap.size w w'))
    (HE : Hid (∀ W, Below w.heap.size w W → Calls Try.prog 24 #[.string u] W fun e w' => e = .returned (.string E) ∧ Below w.heap.size w w'))
    (HEE : Hid (∀ W, Below w.heap.size w W → Calls Try.prog 24 #[.string E] W fun e w' => e = .returned (.string E) ∧ Below w.heap.size w w'))
    (HRE : Hid (∀ W, Below w.heap.size w W → Calls Try.prog 27 #[.string u] W fun e w' => e = .returned (.string E) ∧ Below w.heap.size w w'))
    (HSM : Hid (∀ W, Below w.heap.size w W → Calls Try.prog 28 #[.string u, .string v] W fun e w' => e = .returned (.bool (L.toList == M.toList)) ∧ Below w.heap.size w w'))
    (HBG : Hid (∀ W, Below w.heap.size w W → Calls Try.prog 29 #[.string u, .string v] W fun e w' => e = .returned (.bool (false)) ∧ Below w.heap.size w w'))
    (HLV : Hid (∀ W, Below w.heap.size w W → Calls Try.prog 20 #[] W fun e w' => e = .returned (.bool true) ∧ Below w.heap.size w w')) :
    Calls Try.prog 4 #[.string s, .string t] w fun e w' => e = .returned (.bool true) ∧ Below w.heap.size w w' := by
  have hb0 := Below.refl w.heap.size w
  go_enter Try.func4, Try.ntmps4
  go_wp2_with (first
    | (go_at_call 21; with_reducible refine (HCS.out _ (by assumption)).mono ?_; rintro e w1 ⟨rfl, hb1⟩)
    | (go_at_call 21; with_reducible refine (HCT.out _ (by assumption)).mono ?_; rintro e w1 ⟨rfl, hb1⟩)
    | (go_at_call 22; with_reducible refine (HL.out _ (by assumption)).mono ?_; rintro e w1 ⟨rfl, hb1⟩)
    | (go_at_call 22; with_reducible refine (HLL.out _ (by assumption)).mono ?_; rintro e w1 ⟨rfl, hb1⟩)
    | (go_at_call 25; with_reducible refine (HRL.out _ (by assumption)).mono ?_; rintro e w1 ⟨rfl, hb1⟩)
    | (go_at_call 25; with_reducible refine (HRM.out _ (by assumption)).mono ?_; rintro e w1 ⟨rfl, hb1⟩)
    | (go_at_call 23; with_reducible refine (HT.out _ (by assumption)).mono ?_; rintro e w1 ⟨rfl, hb1⟩)
    | (go_at_call 23; with_reducible refine (HTT.out _ (by assumption)).mono ?_; rintro e w1 ⟨rfl, hb1⟩)
    | (go_at_call 26; with_reducible refine (HRT.out _ (by assumption)).mono ?_; rintro e w1 ⟨rfl, hb1⟩)
    | (go_at_call 24; with_reducible refine (HE.out _ (by assumption)).mono ?_; rintro e w1 ⟨rfl, hb1⟩)
    | (go_at_call 24; with_reducible refine (HEE.out _ (by assumption)).mono ?_; rintro e w1 ⟨rfl, hb1⟩)
    | (go_at_call 27; with_reducible refine (HRE.out _ (by assumption)).mono ?_; rintro e w1 ⟨rfl, hb1⟩)
    | (go_at_call 28; with_reducible refine (HSM.out _ (by assumption)).mono ?_; rintro e w1 ⟨rfl, hb1⟩)
    | (go_at_call 29; with_reducible refine (HBG.out _ (by assumption)).mono ?_; rintro e w1 ⟨rfl, hb1⟩)
    | (go_at_call 20; with_reducible refine (HLV.out _ (by assumption)).mono ?_; rintro e w1 ⟨rfl, hb1⟩))
  go_ret
  exact ⟨rfl, by assumption⟩

theorem classTexts_any (s t : ByteArray) (w : World) (hs : s.size ≤ 9223372036854775807) (ht : t.size ≤ 9223372036854775807) :
    Calls Try.prog 4 #[.string s, .string t] w fun e w' => e = .returned (.bool true) ∧ Below w.heap.size w w' := by
  have hu := cutB_size s 100
  have hv := cutB_size t 100
  by_cases h : (cutB t 100).size ≤ (cutB s 100).size
  · have hbeg : begB (cutB s 100) (cutB t 100) = ((lowS ((cutB s 100).extract 0 (cutB t 100).size)).toList == (lowS (cutB t 100)).toList) := by
      unfold begB sameB
      simp [h]
    exact classTexts_fits s t (cutB s 100) (cutB t 100) (lowS (cutB s 100)) (lowS (cutB t 100)) (lowS ((cutB s 100).extract 0 (cutB t 100).size)) (trimP whiB (cutB s 100)) (cutP tabB (cutB s 100)) w hu hv h
      (fun W hW => (cut_any s 100 W hs).mono fun _ _ h => ⟨h.1, by rw [← h.2]; exact hW⟩)
      (fun W hW => (cut_any t 100 W ht).mono fun _ _ h => ⟨h.1, by rw [← h.2]; exact hW⟩)
      (fun W hW => (lowerS_any (cutB s 100) W (by omega)).mono fun _ _ h => ⟨h.1, hW.trans (h.2.mono hW.size)⟩)
      (fun W hW => by
      have h0 := lowerS_any (lowS (cutB s 100)) W (by rw [lowS_size]; omega)
      rw [lowS_lowS] at h0
      exact h0.mono fun _ _ h => ⟨h.1, hW.trans (h.2.mono hW.size)⟩)
      (fun W hW => (refLowerS_any (cutB s 100) W (by omega)).mono fun _ _ h => ⟨h.1, hW.trans (h.2.mono hW.size)⟩)
      (fun W hW => (refLowerS_any (cutB t 100) W (by omega)).mono fun _ _ h => ⟨h.1, hW.trans (h.2.mono hW.size)⟩)
      (fun W hW => (refLowerS_any ((cutB s 100).extract 0 (cutB t 100).size) W (by simp; omega)).mono fun _ _ h => ⟨h.1, hW.trans (h.2.mono hW.size)⟩)
      (fun W hW => (trim_any (cutB s 100) W (by omega)).mono fun _ _ h => ⟨h.1, by rw [← h.2]; exact hW⟩)
      (fun W hW => by
      have h0 := trim_any (trimP whiB (cutB s 100)) W (by have := trimP_size whiB (cutB s 100); omega)
      rw [trimP_trimP] at h0
      exact h0.mono fun _ _ h => ⟨h.1, by rw [← h.2]; exact hW⟩)
      (fun W hW => (refTrim_any (cutB s 100) W (by omega)).mono fun _ _ h => ⟨h.1, by rw [← h.2]; exact hW⟩)
      (fun W hW => (ends_any (cutB s 100) W (by omega)).mono fun _ _ h => ⟨h.1, by rw [← h.2]; exact hW⟩)
      (fun W hW => by
      have h0 := ends_any (cutP tabB (cutB s 100)) W (by have := cutP_size tabB (cutB s 100); have := backN_le tabB (cutB s 100) (cutB s 100).size; omega)
      rw [cutP_cutP] at h0
      exact h0.mono fun _ _ h => ⟨h.1, by rw [← h.2]; exact hW⟩)
      (fun W hW => (refEnds_any (cutB s 100) W (by omega)).mono fun _ _ h => ⟨h.1, by rw [← h.2]; exact hW⟩)
      (fun W hW => (same_any (cutB s 100) (cutB t 100) W (by omega) (by omega)).mono fun _ _ h => ⟨h.1, by obtain ⟨n, e⟩ := h.2; rw [e]; exact below_drewN hW n⟩)
      (fun W hW => by
      have h0 := begins_any (cutB s 100) (cutB t 100) W (by omega) (by omega)
      rw [hbeg] at h0
      exact h0.mono fun _ _ h => ⟨h.1, by obtain ⟨n, e⟩ := h.2; rw [e]; exact below_drewN hW n⟩)
      (fun W hW => (lives_any W).mono fun _ _ h => ⟨h.1, hW.trans (h.2.mono hW.size)⟩)
  · have hbeg : begB (cutB s 100) (cutB t 100) = false := by
      unfold begB
      simp [h]
    exact classTexts_long s t (cutB s 100) (cutB t 100) (lowS (cutB s 100)) (lowS (cutB t 100)) (trimP whiB (cutB s 100)) (cutP tabB (cutB s 100)) w hu hv (by omega)
      (fun W hW => (cut_any s 100 W hs).mono fun _ _ h => ⟨h.1, by rw [← h.2]; exact hW⟩)
      (fun W hW => (cut_any t 100 W ht).mono fun _ _ h => ⟨h.1, by rw [← h.2]; exact hW⟩)
      (fun W hW => (lowerS_any (cutB s 100) W (by omega)).mono fun _ _ h => ⟨h.1, hW.trans (h.2.mono hW.size)⟩)
      (fun W hW => by
      have h0 := lowerS_any (lowS (cutB s 100)) W (by rw [lowS_size]; omega)
      rw [lowS_lowS] at h0
      exact h0.mono fun _ _ h => ⟨h.1, hW.trans (h.2.mono hW.size)⟩)
      (fun W hW => (refLowerS_any (cutB s 100) W (by omega)).mono fun _ _ h => ⟨h.1, hW.trans (h.2.mono hW.size)⟩)
      (fun W hW => (refLowerS_any (cutB t 100) W (by omega)).mono fun _ _ h => ⟨h.1, hW.trans (h.2.mono hW.size)⟩)
      (fun W hW => (trim_any (cutB s 100) W (by omega)).mono fun _ _ h => ⟨h.1, by rw [← h.2]; exact hW⟩)
      (fun W hW => by
      have h0 := trim_any (trimP whiB (cutB s 100)) W (by have := trimP_size whiB (cutB s 100); omega)
      rw [trimP_trimP] at h0
      exact h0.mono fun _ _ h => ⟨h.1, by rw [← h.2]; exact hW⟩)
      (fun W hW => (refTrim_any (cutB s 100) W (by omega)).mono fun _ _ h => ⟨h.1, by rw [← h.2]; exact hW⟩)
      (fun W hW => (ends_any (cutB s 100) W (by omega)).mono fun _ _ h => ⟨h.1, by rw [← h.2]; exact hW⟩)
      (fun W hW => by
      have h0 := ends_any (cutP tabB (cutB s 100)) W (by have := cutP_size tabB (cutB s 100); have := backN_le tabB (cutB s 100) (cutB s 100).size; omega)
      rw [cutP_cutP] at h0
      exact h0.mono fun _ _ h => ⟨h.1, by rw [← h.2]; exact hW⟩)
      (fun W hW => (refEnds_any (cutB s 100) W (by omega)).mono fun _ _ h => ⟨h.1, by rw [← h.2]; exact hW⟩)
      (fun W hW => (same_any (cutB s 100) (cutB t 100) W (by omega) (by omega)).mono fun _ _ h => ⟨h.1, by obtain ⟨n, e⟩ := h.2; rw [e]; exact below_drewN hW n⟩)
      (fun W hW => by
      have h0 := begins_any (cutB s 100) (cutB t 100) W (by omega) (by omega)
      rw [hbeg] at h0
      exact h0.mono fun _ _ h => ⟨h.1, by obtain ⟨n, e⟩ := h.2; rw [e]; exact below_drewN hW n⟩)
      (fun W hW => (lives_any W).mono fun _ _ h => ⟨h.1, hW.trans (h.2.mono hW.size)⟩)

end Go.Proofs.Ythaighaikddniaa

/-
  What Is of the document's own answer of layer 17 answers. Condition: the text is not longer than memory.
-/
import Derived.Test.YtcjcbbahhphcdaaDoorUe
namespace Go.Proofs.YtcjcbbahhphcdaaDoor
open Go.RowKit

set_option maxHeartbeats 1000000 in
set_option maxRecDepth 100000 in
theorem ris_any (s : ByteArray) (w : World) (hs : s.size ≤ 140737488355328) :
    Calls Tryd.prog 8 #[.string s] w fun e w' => e = .returned (.bool (filW s)) ∧ w = w' := by
  have HM := Lib.hid (fun W => rbegins_any s mrkS W (by omega) (by decide))
  cases hm : begS s mrkS
  · have HE := Lib.hid (show filW s = false from by unfold filW; rw [hm]; rfl)
    rw [hm] at HM
    rw [HE.out]
    clear HE
    go_enter Tryd.func8, Tryd.ntmps8
    go_wp2_with (go_at_call 20; (with_reducible refine (HM.out _).mono ?_); rintro e w1 ⟨rfl, rfl⟩)
    go_ret
    exact ⟨rfl, rfl⟩
  · have HE := Lib.hid (show filW s = filA s 4 from by unfold filW; rw [hm]; rfl)
    rw [hm] at HM
    clear hm
    have HB := Lib.hid (fun i W => rbegins_any (s.extract i s.size) elmS W (by simp; omega) (by decide))
    have HP := Lib.hid (fun i W => rpadded_any (s.extract i s.size) wbmS W (by simp; omega) (by decide))
    go_enter Tryd.func8, Tryd.ntmps8
    go_wp2_with (go_at_call 20; (with_reducible refine (HM.out _).mono ?_); rintro e w1 ⟨rfl, rfl⟩)
    clear HM
    go_loop [3] (fun i => ∃ k : Nat, i = .int .i64 k ∧ Hid (filA s k = filA s 4)) (fun i => 38 - (intOf i).toNat)
    case atStart => exact ⟨4, rfl, Lib.hid rfl⟩
    case round =>
      obtain ⟨k, rfl, HK⟩ := hrel
      by_cases hin : k < s.size ∧ k < 38
      · obtain ⟨hk1, hk2⟩ := hin
        have HBK := Lib.hid (fun W => HB.out k W)
        have HF := Lib.hid (filA_step (s := s) (i := k) ⟨hk1, hk2⟩)
        cases hb : begS (s.extract k s.size) elmS
        · rw [hb] at HBK HF
          clear hb
          have HV := Lib.hid (HF.out.symm.trans HK.out)
          clear HF
          go_wp2_with (go_at_call 20; (with_reducible refine (HBK.out _).mono ?_); rintro e w1 ⟨rfl, rfl⟩)
          go_round
          case rel => exact ⟨k + 1, by go_num, Lib.hid HV.out⟩
          case measure => simp [intOf]; omega
        · rw [hb] at HBK HF
          clear hb
          by_cases h2 : k + 2 < s.size
          · obtain ⟨b, hb, eb⟩ : ∃ b : UInt8, s[k + 2]'h2 = b ∧ Hid (s[k + 2]! = b) := ⟨_, rfl, getElem!_pos s (k + 2) h2⟩
            rw [eb.out] at HF
            have HW := Lib.hid (fun W => rwidth_any b W)
            have hw1 := widB_pos b
            have hw8 := widB_le b
            generalize widB b = z at *
            by_cases h3 : k + 2 + z + 4 < s.size
            · have HPK := Lib.hid (fun W => HP.out (k + 2 + z) W)
              cases hp : padB (s.extract (k + 2 + z) s.size) wbmS
              · rw [hp] at HPK HF
                clear hp
                have HV := Lib.hid (show filA s (k + 2 + z + 1) = filA s 4 from by rw [← HK.out, HF.out, if_pos rfl, if_pos h2, if_pos h3]; rfl)
                clear HF
                go_wp2_with (first
                  | (go_at_call 20; (with_reducible refine (HBK.out _).mono ?_); rintro e w1 ⟨rfl, rfl⟩)
                  | (go_at_call 16; (with_reducible refine (HW.out _).mono ?_); rintro e w1 ⟨rfl, rfl⟩)
                  | (go_at_call 11; (refine (HPK.out _).mono ?_); rintro e w1 ⟨rfl, rfl⟩))
                go_round
                case rel => exact ⟨k + 2 + z + 1, by go_num, Lib.hid HV.out⟩
                case measure => simp [intOf]; omega
              · rw [hp] at HPK HF
                clear hp
                have HV := Lib.hid (show filW s = true from by rw [HE.out, ← HK.out, HF.out, if_pos rfl, if_pos h2, if_pos h3]; rfl)
                clear HF
                go_wp2_with (first
                  | (go_at_call 20; (with_reducible refine (HBK.out _).mono ?_); rintro e w1 ⟨rfl, rfl⟩)
                  | (go_at_call 16; (with_reducible refine (HW.out _).mono ?_); rintro e w1 ⟨rfl, rfl⟩)
                  | (go_at_call 11; (refine (HPK.out _).mono ?_); rintro e w1 ⟨rfl, rfl⟩))
                go_ret
                exact ⟨by rw [HV.out]; rfl, rfl⟩
            · have HV := Lib.hid (show filW s = false from by rw [HE.out, ← HK.out, HF.out, if_pos rfl, if_pos h2, if_neg h3])
              clear HF
              go_wp2_with (first
                | (go_at_call 20; (with_reducible refine (HBK.out _).mono ?_); rintro e w1 ⟨rfl, rfl⟩)
                | (go_at_call 16; (with_reducible refine (HW.out _).mono ?_); rintro e w1 ⟨rfl, rfl⟩))
              go_ret
              exact ⟨by rw [HV.out]; rfl, rfl⟩
          · have HV := Lib.hid (show filW s = false from by rw [HE.out, ← HK.out, HF.out, if_pos rfl, if_neg h2])
            clear HF
            go_wp2_with (go_at_call 20; (with_reducible refine (HBK.out _).mono ?_); rintro e w1 ⟨rfl, rfl⟩)
            go_ret
            exact ⟨by rw [HV.out]; rfl, rfl⟩
      · have HV := Lib.hid (show filW s = false from by rw [HE.out, ← HK.out, filA_over hin])
        by_cases hk1 : k < s.size
        · have hk2 : ¬k < 38 := fun h => hin ⟨hk1, h⟩
          go_wp2
          go_ret
          exact ⟨by rw [HV.out]; rfl, rfl⟩
        · go_wp2
          go_ret
          exact ⟨by rw [HV.out]; rfl, rfl⟩

end Go.Proofs.YtcjcbbahhphcdaaDoor

/-
  What Is of package webm answers. Condition: the text is not longer than memory.
-/
import Derived.Test.YtcjcbbahhphcdaaDoorUc
import Derived.Test.YtcjcbbahhphcdaaDoorUj
namespace Go.Proofs.YtcjcbbahhphcdaaDoor
open Go.RowKit

set_option maxHeartbeats 400000 in
theorem wis_no (s : ByteArray) (w : World) (hm : begS s mrkS = false) :
    Calls Tryd.prog 7 #[.string s] w fun e w' => e = .returned (.bool (filW s)) ∧ w = w' := by
  have HM := Lib.hid (fun W => mark_any s W)
  have HE := Lib.hid (show filW s = false from by unfold filW; rw [hm]; rfl)
  rw [hm] at HM
  rw [HE.out]
  clear HE hm
  go_enter Tryd.func7, Tryd.ntmps7
  go_wp2
  go_step3
  go_wp2_with (go_at_call 9; (with_reducible refine (HM.out _).mono ?_); rintro e w1 ⟨rfl, rfl⟩)
  rw [Exit.noGoto_ret]
  go_ret
  exact ⟨rfl, rfl⟩

set_option maxHeartbeats 4000000 in
set_option maxRecDepth 100000 in
theorem wis_mark (s : ByteArray) (w : World) (hm : begS s mrkS = true) (hs : s.size ≤ 140737488355328) :
    Calls Tryd.prog 7 #[.string s] w fun e w' => e = .returned (.bool (filW s)) ∧ w = w' := by
  have HM := Lib.hid (fun W => mark_any s W)
  have HE := Lib.hid (show filW s = filA s 4 from by unfold filW; rw [hm]; rfl)
  rw [hm] at HM
  clear hm
  have HB := Lib.hid (fun i W => hasPrefix_beg (s.extract i s.size) elmS W)
  have HP := Lib.hid (fun i W => padded_any (s.extract i s.size) wbmS W (by simp; omega) (by decide))
  go_enter Tryd.func7, Tryd.ntmps7
  go_wp2
  refine scope_jumps
    (fun l a' w' => w' = w ∧ ((l = 0 ∧ ∃ (k : Nat) (u4 u5 u6 u7 u8 u9 u10 u11 u12 u13 u14 u15 u16 u17 u18 u19 u20 u21 u22 u23 u24 u25 u26 u27 u28 u29 u30 u31 u32 u33 u34 u35 u36 u37 u38 u39 u40 u41 u42 : Value), a' = { tmps := #[.string s, undef, .bool false, .int .i64 (k : Nat), u4, u5, u6, u7, u8, u9, u10, u11, u12, u13, u14, u15, u16, u17, u18, u19, u20, u21, u22, u23, u24, u25, u26, u27, u28, u29, u30, u31, u32, u33, u34, u35, u36, u37, u38, u39, u40, u41, u42], defers := [] } ∧ Hid (filA s k = filA s 4)) ∨ (l = 1 ∧ ∃ (k : Nat) (u4 u5 u6 u7 u8 u9 u10 u11 u12 u13 u14 u15 u16 u17 u18 u19 u20 u21 u22 u23 u24 u25 u26 u27 u28 u29 u30 u31 u32 u33 u34 u35 u36 u37 u38 u39 u40 u41 u42 : Value), a' = { tmps := #[.string s, undef, .bool false, .int .i64 (k : Nat), u4, u5, u6, u7, u8, u9, u10, u11, u12, u13, u14, u15, u16, u17, u18, u19, u20, u21, u22, u23, u24, u25, u26, u27, u28, u29, u30, u31, u32, u33, u34, u35, u36, u37, u38, u39, u40, u41, u42], defers := [] } ∧ k ≤ 50 ∧ Hid (filA s (k + 1) = filA s 4))))
    (fun l a' _ => 2 * (60 - (intOf (a'.tmps.getD 3 undef)).toNat) - l) ?_ ?_
  · have HK : Hid (filA s 4 = filA s 4) := Lib.hid rfl
    by_cases hk1 : 4 < s.size
    · have HBK := Lib.hid (fun W => HB.out 4 W)
      have HF := Lib.hid (filA_step (s := s) (i := 4) ⟨hk1, by omega⟩)
      cases hb : begS (s.extract (4) s.size) elmS
      · rw [hb] at HBK HF
        clear hb
        have HV := Lib.hid (HF.out.symm.trans HK.out)
        clear HF
        go_wp2_with (first
          | (go_at_call 9; (with_reducible refine (HM.out _).mono ?_); rintro e w1 ⟨rfl, rfl⟩)
          | (go_at_call 19; (with_reducible refine (HBK.out _).mono ?_); rintro e w1 ⟨rfl, rfl⟩)
          | (go_at_call 15; (with_reducible refine (HW.out _).mono ?_); rintro e w1 ⟨rfl, rfl⟩)
          | (go_at_call 10; (with_reducible refine (HPK.out _).mono ?_); rintro e w1 ⟨rfl, rfl⟩))
        go_step3
        go_wp2_with (first
          | (go_at_call 9; (with_reducible refine (HM.out _).mono ?_); rintro e w1 ⟨rfl, rfl⟩)
          | (go_at_call 19; (with_reducible refine (HBK.out _).mono ?_); rintro e w1 ⟨rfl, rfl⟩)
          | (go_at_call 15; (with_reducible refine (HW.out _).mono ?_); rintro e w1 ⟨rfl, rfl⟩)
          | (go_at_call 10; (with_reducible refine (HPK.out _).mono ?_); rintro e w1 ⟨rfl, rfl⟩))
        go_step3
        exact ⟨rfl, .inr ⟨rfl, 4, _, _, _, _, _, _, _, _, _, _, _, _, _, _, _, _, _, _, _, _, _, _, _, _, _, _, _, _, _, _, _, _, _, _, _, _, _, _, _, by go_num, by omega, Lib.hid HV.out⟩⟩
      · rw [hb] at HBK HF
        clear hb
        by_cases h2 : 4 + 2 < s.size
        · obtain ⟨b, hb, eb⟩ : ∃ b : UInt8, s[4 + 2]'h2 = b ∧ Hid (s[4 + 2]! = b) := ⟨_, rfl, getElem!_pos s (4 + 2) h2⟩
          rw [eb.out] at HF
          have HW := Lib.hid (fun W => width_any b W)
          have hw1 := widB_pos b
          have hw8 := widB_le b
          generalize widB b = z at *
          by_cases h3 : 4 + 2 + z + 4 < s.size
          · have HPK := Lib.hid (fun W => HP.out (4 + 2 + z) W)
            cases hp : padB (s.extract (4 + 2 + z) s.size) wbmS
            · rw [hp] at HPK HF
              clear hp
              have HV := Lib.hid (show filA s (4 + 2 + z + 1) = filA s 4 from by rw [← HK.out, HF.out, if_pos rfl, if_pos h2, if_pos h3]; rfl)
              clear HF
              go_wp2_with (first
                | (go_at_call 9; (with_reducible refine (HM.out _).mono ?_); rintro e w1 ⟨rfl, rfl⟩)
                | (go_at_call 19; (with_reducible refine (HBK.out _).mono ?_); rintro e w1 ⟨rfl, rfl⟩)
                | (go_at_call 15; (with_reducible refine (HW.out _).mono ?_); rintro e w1 ⟨rfl, rfl⟩)
                | (go_at_call 10; (with_reducible refine (HPK.out _).mono ?_); rintro e w1 ⟨rfl, rfl⟩))
              go_step3
              go_wp2_with (first
                | (go_at_call 9; (with_reducible refine (HM.out _).mono ?_); rintro e w1 ⟨rfl, rfl⟩)
                | (go_at_call 19; (with_reducible refine (HBK.out _).mono ?_); rintro e w1 ⟨rfl, rfl⟩)
                | (go_at_call 15; (with_reducible refine (HW.out _).mono ?_); rintro e w1 ⟨rfl, rfl⟩)
                | (go_at_call 10; (with_reducible refine (HPK.out _).mono ?_); rintro e w1 ⟨rfl, rfl⟩))
              go_step3
              go_wp2
              go_step3
              exact ⟨rfl, .inl ⟨rfl, 4 + 2 + z + 1, _, _, _, _, _, _, _, _, _, _, _, _, _, _, _, _, _, _, _, _, _, _, _, _, _, _, _, _, _, _, _, _, _, _, _, _, _, _, _, by go_num, Lib.hid HV.out⟩⟩
            · rw [hp] at HPK HF
              clear hp
              have HV := Lib.hid (show filW s = true from by rw [HE.out, ← HK.out, HF.out, if_pos rfl, if_pos h2, if_pos h3]; rfl)
              clear HF
              go_wp2_with (first
                | (go_at_call 9; (with_reducible refine (HM.out _).mono ?_); rintro e w1 ⟨rfl, rfl⟩)
                | (go_at_call 19; (with_reducible refine (HBK.out _).mono ?_); rintro e w1 ⟨rfl, rfl⟩)
                | (go_at_call 15; (with_reducible refine (HW.out _).mono ?_); rintro e w1 ⟨rfl, rfl⟩)
                | (go_at_call 10; (with_reducible refine (HPK.out _).mono ?_); rintro e w1 ⟨rfl, rfl⟩))
              go_step3
              go_wp2_with (first
                | (go_at_call 9; (with_reducible refine (HM.out _).mono ?_); rintro e w1 ⟨rfl, rfl⟩)
                | (go_at_call 19; (with_reducible refine (HBK.out _).mono ?_); rintro e w1 ⟨rfl, rfl⟩)
                | (go_at_call 15; (with_reducible refine (HW.out _).mono ?_); rintro e w1 ⟨rfl, rfl⟩)
                | (go_at_call 10; (with_reducible refine (HPK.out _).mono ?_); rintro e w1 ⟨rfl, rfl⟩))
              simp only [jumpsTo]
              go_ret
              exact ⟨by rw [HV.out]; rfl, rfl⟩
          · have HV := Lib.hid (show filW s = false from by rw [HE.out, ← HK.out, HF.out, if_pos rfl, if_pos h2, if_neg h3])
            clear HF
            go_wp2_with (first
              | (go_at_call 9; (with_reducible refine (HM.out _).mono ?_); rintro e w1 ⟨rfl, rfl⟩)
              | (go_at_call 19; (with_reducible refine (HBK.out _).mono ?_); rintro e w1 ⟨rfl, rfl⟩)
              | (go_at_call 15; (with_reducible refine (HW.out _).mono ?_); rintro e w1 ⟨rfl, rfl⟩)
              | (go_at_call 10; (with_reducible refine (HPK.out _).mono ?_); rintro e w1 ⟨rfl, rfl⟩))
            go_step3
            go_wp2_with (first
              | (go_at_call 9; (with_reducible refine (HM.out _).mono ?_); rintro e w1 ⟨rfl, rfl⟩)
              | (go_at_call 19; (with_reducible refine (HBK.out _).mono ?_); rintro e w1 ⟨rfl, rfl⟩)
              | (go_at_call 15; (with_reducible refine (HW.out _).mono ?_); rintro e w1 ⟨rfl, rfl⟩)
              | (go_at_call 10; (with_reducible refine (HPK.out _).mono ?_); rintro e w1 ⟨rfl, rfl⟩))
            simp only [jumpsTo]
            go_ret
            exact ⟨by rw [HV.out]; rfl, rfl⟩
        · have HV := Lib.hid (show filW s = false from by rw [HE.out, ← HK.out, HF.out, if_pos rfl, if_neg h2])
          clear HF
          go_wp2_with (first
            | (go_at_call 9; (with_reducible refine (HM.out _).mono ?_); rintro e w1 ⟨rfl, rfl⟩)
            | (go_at_call 19; (with_reducible refine (HBK.out _).mono ?_); rintro e w1 ⟨rfl, rfl⟩)
            | (go_at_call 15; (with_reducible refine (HW.out _).mono ?_); rintro e w1 ⟨rfl, rfl⟩)
            | (go_at_call 10; (with_reducible refine (HPK.out _).mono ?_); rintro e w1 ⟨rfl, rfl⟩))
          go_step3
          go_wp2_with (first
            | (go_at_call 9; (with_reducible refine (HM.out _).mono ?_); rintro e w1 ⟨rfl, rfl⟩)
            | (go_at_call 19; (with_reducible refine (HBK.out _).mono ?_); rintro e w1 ⟨rfl, rfl⟩)
            | (go_at_call 15; (with_reducible refine (HW.out _).mono ?_); rintro e w1 ⟨rfl, rfl⟩)
            | (go_at_call 10; (with_reducible refine (HPK.out _).mono ?_); rintro e w1 ⟨rfl, rfl⟩))
          simp only [jumpsTo]
          go_ret
          exact ⟨by rw [HV.out]; rfl, rfl⟩
    · have HV := Lib.hid (show filW s = false from by rw [HE.out, filA_over (fun h => hk1 h.1)])
      go_wp2_with (go_at_call 9; (with_reducible refine (HM.out _).mono ?_); rintro e w1 ⟨rfl, rfl⟩)
      go_step3
      go_wp2
      simp only [jumpsTo]
      go_ret
      exact ⟨by rw [HV.out]; rfl, rfl⟩
  · rintro l a' w' ⟨rfl, ⟨rfl, k, u4, u5, u6, u7, u8, u9, u10, u11, u12, u13, u14, u15, u16, u17, u18, u19, u20, u21, u22, u23, u24, u25, u26, u27, u28, u29, u30, u31, u32, u33, u34, u35, u36, u37, u38, u39, u40, u41, u42, rfl, HK⟩ | ⟨rfl, k, u4, u5, u6, u7, u8, u9, u10, u11, u12, u13, u14, u15, u16, u17, u18, u19, u20, u21, u22, u23, u24, u25, u26, u27, u28, u29, u30, u31, u32, u33, u34, u35, u36, u37, u38, u39, u40, u41, u42, rfl, hk50, HK⟩⟩
    · refine ⟨_, rfl, ?_⟩
      by_cases hin : k < s.size ∧ k < 38
      · obtain ⟨hk1, hk2⟩ := hin
        have HBK := Lib.hid (fun W => HB.out k W)
        have HF := Lib.hid (filA_step (s := s) (i := k) ⟨hk1, hk2⟩)
        cases hb : begS (s.extract (k) s.size) elmS
        · rw [hb] at HBK HF
          clear hb
          have HV := Lib.hid (HF.out.symm.trans HK.out)
          clear HF
          go_wp2_with (first
            | (go_at_call 9; (with_reducible refine (HM.out _).mono ?_); rintro e w1 ⟨rfl, rfl⟩)
            | (go_at_call 19; (with_reducible refine (HBK.out _).mono ?_); rintro e w1 ⟨rfl, rfl⟩)
            | (go_at_call 15; (with_reducible refine (HW.out _).mono ?_); rintro e w1 ⟨rfl, rfl⟩)
            | (go_at_call 10; (with_reducible refine (HPK.out _).mono ?_); rintro e w1 ⟨rfl, rfl⟩))
          go_step3
          refine ⟨⟨rfl, .inr ⟨rfl, k, _, _, _, _, _, _, _, _, _, _, _, _, _, _, _, _, _, _, _, _, _, _, _, _, _, _, _, _, _, _, _, _, _, _, _, _, _, _, _, by go_num, by omega, Lib.hid HV.out⟩⟩, ?_⟩
          simp [intOf]
          try omega
        · rw [hb] at HBK HF
          clear hb
          by_cases h2 : k + 2 < s.size
          · obtain ⟨b, hb, eb⟩ : ∃ b : UInt8, s[k + 2]'h2 = b ∧ Hid (s[k + 2]! = b) := ⟨_, rfl, getElem!_pos s (k + 2) h2⟩
            rw [eb.out] at HF
            have HW := Lib.hid (fun W => width_any b W)
            have hw1 := widB_pos b
            have hw8 := widB_le b
            generalize widB b = z at *
            by_cases h3 : k + 2 + z + 4 < s.size
            · have HPK := Lib.hid (fun W => HP.out (k + 2 + z) W)
              cases hp : padB (s.extract (k + 2 + z) s.size) wbmS
              · rw [hp] at HPK HF
                clear hp
                have HV := Lib.hid (show filA s (k + 2 + z + 1) = filA s 4 from by rw [← HK.out, HF.out, if_pos rfl, if_pos h2, if_pos h3]; rfl)
                clear HF
                go_wp2_with (first
                  | (go_at_call 9; (with_reducible refine (HM.out _).mono ?_); rintro e w1 ⟨rfl, rfl⟩)
                  | (go_at_call 19; (with_reducible refine (HBK.out _).mono ?_); rintro e w1 ⟨rfl, rfl⟩)
                  | (go_at_call 15; (with_reducible refine (HW.out _).mono ?_); rintro e w1 ⟨rfl, rfl⟩)
                  | (go_at_call 10; (with_reducible refine (HPK.out _).mono ?_); rintro e w1 ⟨rfl, rfl⟩))
                go_step3
                go_wp2
                go_step3
                refine ⟨⟨rfl, .inl ⟨rfl, k + 2 + z + 1, _, _, _, _, _, _, _, _, _, _, _, _, _, _, _, _, _, _, _, _, _, _, _, _, _, _, _, _, _, _, _, _, _, _, _, _, _, _, _, by go_num, Lib.hid HV.out⟩⟩, ?_⟩
                simp [intOf]
                try omega
              · rw [hp] at HPK HF
                clear hp
                have HV := Lib.hid (show filW s = true from by rw [HE.out, ← HK.out, HF.out, if_pos rfl, if_pos h2, if_pos h3]; rfl)
                clear HF
                go_wp2_with (first
                  | (go_at_call 9; (with_reducible refine (HM.out _).mono ?_); rintro e w1 ⟨rfl, rfl⟩)
                  | (go_at_call 19; (with_reducible refine (HBK.out _).mono ?_); rintro e w1 ⟨rfl, rfl⟩)
                  | (go_at_call 15; (with_reducible refine (HW.out _).mono ?_); rintro e w1 ⟨rfl, rfl⟩)
                  | (go_at_call 10; (with_reducible refine (HPK.out _).mono ?_); rintro e w1 ⟨rfl, rfl⟩))
                simp only [jumpsTo]
                go_ret
                exact ⟨by rw [HV.out]; rfl, rfl⟩
            · have HV := Lib.hid (show filW s = false from by rw [HE.out, ← HK.out, HF.out, if_pos rfl, if_pos h2, if_neg h3])
              clear HF
              go_wp2_with (first
                | (go_at_call 9; (with_reducible refine (HM.out _).mono ?_); rintro e w1 ⟨rfl, rfl⟩)
                | (go_at_call 19; (with_reducible refine (HBK.out _).mono ?_); rintro e w1 ⟨rfl, rfl⟩)
                | (go_at_call 15; (with_reducible refine (HW.out _).mono ?_); rintro e w1 ⟨rfl, rfl⟩)
                | (go_at_call 10; (with_reducible refine (HPK.out _).mono ?_); rintro e w1 ⟨rfl, rfl⟩))
              simp only [jumpsTo]
              go_ret
              exact ⟨by rw [HV.out]; rfl, rfl⟩
          · have HV := Lib.hid (show filW s = false from by rw [HE.out, ← HK.out, HF.out, if_pos rfl, if_neg h2])
            clear HF
            go_wp2_with (first
              | (go_at_call 9; (with_reducible refine (HM.out _).mono ?_); rintro e w1 ⟨rfl, rfl⟩)
              | (go_at_call 19; (with_reducible refine (HBK.out _).mono ?_); rintro e w1 ⟨rfl, rfl⟩)
              | (go_at_call 15; (with_reducible refine (HW.out _).mono ?_); rintro e w1 ⟨rfl, rfl⟩)
              | (go_at_call 10; (with_reducible refine (HPK.out _).mono ?_); rintro e w1 ⟨rfl, rfl⟩))
            simp only [jumpsTo]
            go_ret
            exact ⟨by rw [HV.out]; rfl, rfl⟩
      · have HV := Lib.hid (show filW s = false from by rw [HE.out, ← HK.out, filA_over hin])
        by_cases hk1 : k < s.size
        · have hk2 : ¬k < 38 := fun h => hin ⟨hk1, h⟩
          go_wp2
          simp only [jumpsTo]
          go_ret
          exact ⟨by rw [HV.out]; rfl, rfl⟩
        · go_wp2
          simp only [jumpsTo]
          go_ret
          exact ⟨by rw [HV.out]; rfl, rfl⟩
    · refine ⟨_, rfl, ?_⟩
      go_wp2
      go_step3
      refine ⟨⟨rfl, .inl ⟨rfl, k + 1, _, _, _, _, _, _, _, _, _, _, _, _, _, _, _, _, _, _, _, _, _, _, _, _, _, _, _, _, _, _, _, _, _, _, _, _, _, _, _, by go_num, HK⟩⟩, ?_⟩
      simp [intOf]
      try omega

theorem wis_any (s : ByteArray) (w : World) (hs : s.size ≤ 140737488355328) :
    Calls Tryd.prog 7 #[.string s] w fun e w' => e = .returned (.bool (filW s)) ∧ w = w' := by
  cases hm : begS s mrkS
  · exact wis_no s w hm
  · exact wis_mark s w hm hs

end Go.Proofs.YtcjcbbahhphcdaaDoor

/-
  A scope in which the run jumps to labels, forward and back: what holds at every jump to each label, and a measure that every pass from a label lowers. No condition.
  What Is of package webm answers. Condition: the text is not longer than memory.
  What the document's own answers of layer 17 but Is answer. Condition: the texts are not longer than memory.
-/
import Derived.ScopeJumps
import Derived.WalkMore
import Derived.Test.YtkdjjlfpaciohaaGreatDoorZ25
import Derived.Test.YtkdjjlfpaciohaaGreatDoorZ20
import Derived.Test.YtkdjjlfpaciohaaGreatDoorZ2
import Derived.Test.YtkdjjlfpaciohaaGreatDoorZ8
import Derived.BigQuiet
import Derived.Deep.QuietTactic
import Derived.OwnWalk
import Derived.LoopTactic
import Derived.WalkKit
import Derived.Lib.Hide
namespace Go.Proofs.YtkdjjlfpaciohaaGreatDoor

/-- As Q; by a goto to label l: J l. -/
def jumpsTo (J : Nat → Act → World → Prop) (Q : Exit → Act → World → Prop) : Exit → Act → World → Prop
  | .goto l, a, w => J l a w
  | e, a, w => Q e a w

theorem scope_jumps {P : Program} {a : Act} {w : World} {Q : Exit → Act → World → Prop} {c : Code} (J : Nat → Act → World → Prop) (μ : Nat → Act → World → Nat)
    (first : c.wp P (jumpsTo J Q) a w)
    (pass : ∀ l a w, J l a w → ∃ rest, findLabel c l = some rest ∧ rest.wp P (jumpsTo (fun l' a' w' => J l' a' w' ∧ μ l' a' w' < μ l a w) Q) a w) : (Code.scope c).wp P Q a w := by
  intro b k cs
  have hg : ∀ l rest, findLabel c l = some rest → gotoIn l (.inScope c :: k) = some (.code rest :: .inScope c :: k) := fun l rest hf => by simp [gotoIn, hf]
  have key : ∀ n l a w rest, μ l a w = n → J l a w → findLabel c l = some rest → ∃ e a' w', Q e a' w' ∧ Arrives P (lone (b.at a (.code rest :: .inScope c :: k)) cs w) b k cs e a' w' := by
    intro n
    induction n using Nat.strongRecOn with
    | _ n ih =>
      intro l a w rest hn hJ hf
      obtain ⟨rest', hf', hp⟩ := pass l a w hJ
      obtain rfl : rest = rest' := Option.some.inj (hf.symm.trans hf')
      obtain ⟨e, a₁, w₁, hq, harr⟩ := hp b (.inScope c :: k) cs
      cases e with
      | normal => exact ⟨.normal, a₁, w₁, hq, Steps.trans harr (.one step_inScope)⟩
      | exit id => exact ⟨.exit id, a₁, w₁, hq, fun k' hk => harr k' (by simp [exitTo, hk])⟩
      | goto l' =>
        obtain ⟨hJ', hlt⟩ := hq
        obtain ⟨rest₂, hf₂, _⟩ := pass l' a₁ w₁ hJ'
        obtain ⟨e₂, a₂, w₂, hq₂, harr₂⟩ := ih _ (by omega) l' a₁ w₁ rest₂ rfl hJ' hf₂
        exact ⟨e₂, a₂, w₂, hq₂, .of_steps (harr _ (hg l' rest₂ hf₂)) harr₂⟩
      | ret => exact ⟨_, a₁, w₁, hq, harr⟩
      | panic ch => exact ⟨_, a₁, w₁, hq, harr⟩
      | outgrown => exact ⟨_, a₁, w₁, hq, harr⟩
  obtain ⟨e, a₁, w₁, hq, harr⟩ := first b (.inScope c :: k) cs
  cases e with
  | normal => exact ⟨.normal, a₁, w₁, hq, .head step_scope (Steps.trans harr (.one step_inScope))⟩
  | exit id => exact ⟨.exit id, a₁, w₁, hq, fun k' hk => .head step_scope (harr k' (by simp [exitTo, hk]))⟩
  | goto l' =>
    obtain ⟨rest₂, hf₂, _⟩ := pass l' a₁ w₁ hq
    obtain ⟨e₂, a₂, w₂, hq₂, harr₂⟩ := key _ l' a₁ w₁ rest₂ rfl hq hf₂
    exact ⟨e₂, a₂, w₂, hq₂, .of_steps (.head step_scope (harr _ (hg l' rest₂ hf₂))) harr₂⟩
  | ret => exact ⟨_, a₁, w₁, hq, .of_steps (.one step_scope) harr⟩
  | panic ch => exact ⟨_, a₁, w₁, hq, .of_steps (.one step_scope) harr⟩
  | outgrown => exact ⟨_, a₁, w₁, hq, .of_steps (.one step_scope) harr⟩

end Go.Proofs.YtkdjjlfpaciohaaGreatDoor
namespace Go.Proofs.YtkdjjlfpaciohaaGreatDoor
open Go.RowKit

set_option maxHeartbeats 400000 in
theorem wis_no (s : ByteArray) (w : World) (hm : begS s mrkS = false) :
    Calls Tryz.prog 63 #[.string s] w fun e w' => e = .returned (.bool (filW s)) ∧ w = w' := by
  have HM := Lib.hid (fun W => mark_any s W)
  have HE := Lib.hid (show filW s = false from by unfold filW; rw [hm]; rfl)
  rw [hm] at HM
  rw [HE.out]
  clear HE hm
  go_enter Tryz.func63, Tryz.ntmps63
  go_wp2
  go_step3
  go_wp2_with (go_at_call 88; (with_reducible refine (HM.out _).mono ?_); rintro e w1 ⟨rfl, rfl⟩)
  rw [Exit.noGoto_ret]
  go_ret
  exact ⟨rfl, rfl⟩

set_option maxHeartbeats 4000000 in
set_option maxRecDepth 100000 in
theorem wis_mark (s : ByteArray) (w : World) (hm : begS s mrkS = true) (hs : s.size ≤ 140737488355328) :
    Calls Tryz.prog 63 #[.string s] w fun e w' => e = .returned (.bool (filW s)) ∧ w = w' := by
  have HM := Lib.hid (fun W => mark_any s W)
  have HE := Lib.hid (show filW s = filA s 4 from by unfold filW; rw [hm]; rfl)
  rw [hm] at HM
  clear hm
  have HB := Lib.hid (fun i W => hasPrefix_beg (s.extract i s.size) elmS W)
  have HP := Lib.hid (fun i W => padded_any (s.extract i s.size) wbmS W (by simp; omega) (by decide))
  go_enter Tryz.func63, Tryz.ntmps63
  go_wp2
  refine scope_jumps
    (fun l a' w' => w' = w ∧ ((l = 0 ∧ ∃ (k : Nat) (u4 u5 u6 u7 u8 u9 u10 u11 u12 u13 u14 u15 u16 u17 u18 u19 u20 u21 u22 u23 u24 u25 u26 u27 u28 u29 u30 u31 u32 u33 u34 u35 u36 u37 u38 u39 u40 u41 u42 : Value), a' = { tmps := #[.string s, undef, .bool false, .int .i64 (k : Nat), u4, u5, u6, u7, u8, u9, u10, u11, u12, u13, u14, u15, u16, u17, u18, u19, u20, u21, u22, u23, u24, u25, u26, u27, u28, u29, u30, u31, u32, u33, u34, u35, u36, u37, u38, u39, u40, u41, u42], defers := [] } ∧ Hid (filA s k = filA s 4)) ∨ (l = 1 ∧ ∃ (k : Nat) (u4 u5 u6 u7 u8 u9 u10 u11 u12 u13 u14 u15 u16 u17 u18 u19 u20 u21 u22 u23 u24 u25 u26 u27 u28 u29 u30 u31 u32 u33 u34 u35 u36 u37 u38 u39 u40 u41 u42 : Value), a' = { tmps := #[.string s, undef, .bool false, .int .i64 (k : Nat), u4, u5, u6, u7, u8, u9, u10, u11, u12, u13, u14, u15, u16, u17, u18, u19, u20, u21, u22, u23, u24, u25, u26, u27, u28, u29, u30, u31, u32, u33, u34, u35, u36, u37, u38, u39, u40, u41, u42], defers := [] } ∧ k ≤ 50 ∧ Hid (filA s (k + 1) = filA s 4))))
    (fun l a' _ => 2 * (60 - (intOf (a'.tmps.getD 3 undef)).toNat) - l) ?_ ?_
  · have HK : Hid (filA s 4 = filA s 4) := Lib.hid rfl
    by_cases hk1 : 4 < s.size
    · have HBK := Lib.hid (fun W => HB.out 4 W)
      have HF := Lib.hid (filA_step (s := s) (i := 4) ⟨hk1, by omega⟩)
      cases hb : begS (s.extract (4) s.size) elmS
      · rw [hb] at HBK HF
        clear hb
        have HV := Lib.hid (HF.out.symm.trans HK.out)
        clear HF
        go_wp2_with (first
          | (go_at_call 88; (with_reducible refine (HM.out _).mono ?_); rintro e w1 ⟨rfl, rfl⟩)
          | (go_at_call 80; (with_reducible refine (HBK.out _).mono ?_); rintro e w1 ⟨rfl, rfl⟩)
          | (go_at_call 89; (with_reducible refine (HW.out _).mono ?_); rintro e w1 ⟨rfl, rfl⟩)
          | (go_at_call 90; (with_reducible refine (HPK.out _).mono ?_); rintro e w1 ⟨rfl, rfl⟩))
        go_step3
        go_wp2_with (first
          | (go_at_call 88; (with_reducible refine (HM.out _).mono ?_); rintro e w1 ⟨rfl, rfl⟩)
          | (go_at_call 80; (with_reducible refine (HBK.out _).mono ?_); rintro e w1 ⟨rfl, rfl⟩)
          | (go_at_call 89; (with_reducible refine (HW.out _).mono ?_); rintro e w1 ⟨rfl, rfl⟩)
          | (go_at_call 90; (with_reducible refine (HPK.out _).mono ?_); rintro e w1 ⟨rfl, rfl⟩))
        go_step3
        exact ⟨rfl, .inr ⟨rfl, 4, _, _, _, _, _, _, _, _, _, _, _, _, _, _, _, _, _, _, _, _, _, _, _, _, _, _, _, _, _, _, _, _, _, _, _, _, _, _, _, by go_num, by omega, Lib.hid HV.out⟩⟩
      · rw [hb] at HBK HF
        clear hb
        by_cases h2 : 4 + 2 < s.size
        · obtain ⟨b, hb, eb⟩ : ∃ b : UInt8, s[4 + 2]'h2 = b ∧ Hid (s[4 + 2]! = b) := ⟨_, rfl, getElem!_pos s (4 + 2) h2⟩
          rw [eb.out] at HF
          have HW := Lib.hid (fun W => width_any b W)
          have hw1 := widB_pos b
          have hw8 := widB_le b
          generalize widB b = z at *
          by_cases h3 : 4 + 2 + z + 4 < s.size
          · have HPK := Lib.hid (fun W => HP.out (4 + 2 + z) W)
            cases hp : padB (s.extract (4 + 2 + z) s.size) wbmS
            · rw [hp] at HPK HF
              clear hp
              have HV := Lib.hid (show filA s (4 + 2 + z + 1) = filA s 4 from by rw [← HK.out, HF.out, if_pos rfl, if_pos h2, if_pos h3]; rfl)
              clear HF
              go_wp2_with (first
                | (go_at_call 88; (with_reducible refine (HM.out _).mono ?_); rintro e w1 ⟨rfl, rfl⟩)
                | (go_at_call 80; (with_reducible refine (HBK.out _).mono ?_); rintro e w1 ⟨rfl, rfl⟩)
                | (go_at_call 89; (with_reducible refine (HW.out _).mono ?_); rintro e w1 ⟨rfl, rfl⟩)
                | (go_at_call 90; (with_reducible refine (HPK.out _).mono ?_); rintro e w1 ⟨rfl, rfl⟩))
              go_step3
              go_wp2_with (first
                | (go_at_call 88; (with_reducible refine (HM.out _).mono ?_); rintro e w1 ⟨rfl, rfl⟩)
                | (go_at_call 80; (with_reducible refine (HBK.out _).mono ?_); rintro e w1 ⟨rfl, rfl⟩)
                | (go_at_call 89; (with_reducible refine (HW.out _).mono ?_); rintro e w1 ⟨rfl, rfl⟩)
                | (go_at_call 90; (with_reducible refine (HPK.out _).mono ?_); rintro e w1 ⟨rfl, rfl⟩))
              go_step3
              go_wp2
              go_step3
              exact ⟨rfl, .inl ⟨rfl, 4 + 2 + z + 1, _, _, _, _, _, _, _, _, _, _, _, _, _, _, _, _, _, _, _, _, _, _, _, _, _, _, _, _, _, _, _, _, _, _, _, _, _, _, _, by go_num, Lib.hid HV.out⟩⟩
            · rw [hp] at HPK HF
              clear hp
              have HV := Lib.hid (show filW s = true from by rw [HE.out, ← HK.out, HF.out, if_pos rfl, if_pos h2, if_pos h3]; rfl)
              clear HF
              go_wp2_with (first
                | (go_at_call 88; (with_reducible refine (HM.out _).mono ?_); rintro e w1 ⟨rfl, rfl⟩)
                | (go_at_call 80; (with_reducible refine (HBK.out _).mono ?_); rintro e w1 ⟨rfl, rfl⟩)
                | (go_at_call 89; (with_reducible refine (HW.out _).mono ?_); rintro e w1 ⟨rfl, rfl⟩)
                | (go_at_call 90; (with_reducible refine (HPK.out _).mono ?_); rintro e w1 ⟨rfl, rfl⟩))
              go_step3
              go_wp2_with (first
                | (go_at_call 88; (with_reducible refine (HM.out _).mono ?_); rintro e w1 ⟨rfl, rfl⟩)
                | (go_at_call 80; (with_reducible refine (HBK.out _).mono ?_); rintro e w1 ⟨rfl, rfl⟩)
                | (go_at_call 89; (with_reducible refine (HW.out _).mono ?_); rintro e w1 ⟨rfl, rfl⟩)
                | (go_at_call 90; (with_reducible refine (HPK.out _).mono ?_); rintro e w1 ⟨rfl, rfl⟩))
              simp only [jumpsTo]
              go_ret
              exact ⟨by rw [HV.out]; rfl, rfl⟩
          · have HV := Lib.hid (show filW s = false from by rw [HE.out, ← HK.out, HF.out, if_pos rfl, if_pos h2, if_neg h3])
            clear HF
            go_wp2_with (first
              | (go_at_call 88; (with_reducible refine (HM.out _).mono ?_); rintro e w1 ⟨rfl, rfl⟩)
              | (go_at_call 80; (with_reducible refine (HBK.out _).mono ?_); rintro e w1 ⟨rfl, rfl⟩)
              | (go_at_call 89; (with_reducible refine (HW.out _).mono ?_); rintro e w1 ⟨rfl, rfl⟩)
              | (go_at_call 90; (with_reducible refine (HPK.out _).mono ?_); rintro e w1 ⟨rfl, rfl⟩))
            go_step3
            go_wp2_with (first
              | (go_at_call 88; (with_reducible refine (HM.out _).mono ?_); rintro e w1 ⟨rfl, rfl⟩)
              | (go_at_call 80; (with_reducible refine (HBK.out _).mono ?_); rintro e w1 ⟨rfl, rfl⟩)
              | (go_at_call 89; (with_reducible refine (HW.out _).mono ?_); rintro e w1 ⟨rfl, rfl⟩)
              | (go_at_call 90; (with_reducible refine (HPK.out _).mono ?_); rintro e w1 ⟨rfl, rfl⟩))
            simp only [jumpsTo]
            go_ret
            exact ⟨by rw [HV.out]; rfl, rfl⟩
        · have HV := Lib.hid (show filW s = false from by rw [HE.out, ← HK.out, HF.out, if_pos rfl, if_neg h2])
          clear HF
          go_wp2_with (first
            | (go_at_call 88; (with_reducible refine (HM.out _).mono ?_); rintro e w1 ⟨rfl, rfl⟩)
            | (go_at_call 80; (with_reducible refine (HBK.out _).mono ?_); rintro e w1 ⟨rfl, rfl⟩)
            | (go_at_call 89; (with_reducible refine (HW.out _).mono ?_); rintro e w1 ⟨rfl, rfl⟩)
            | (go_at_call 90; (with_reducible refine (HPK.out _).mono ?_); rintro e w1 ⟨rfl, rfl⟩))
          go_step3
          go_wp2_with (first
            | (go_at_call 88; (with_reducible refine (HM.out _).mono ?_); rintro e w1 ⟨rfl, rfl⟩)
            | (go_at_call 80; (with_reducible refine (HBK.out _).mono ?_); rintro e w1 ⟨rfl, rfl⟩)
            | (go_at_call 89; (with_reducible refine (HW.out _).mono ?_); rintro e w1 ⟨rfl, rfl⟩)
            | (go_at_call 90; (with_reducible refine (HPK.out _).mono ?_); rintro e w1 ⟨rfl, rfl⟩))
          simp only [jumpsTo]
          go_ret
          exact ⟨by rw [HV.out]; rfl, rfl⟩
    · have HV := Lib.hid (show filW s = false from by rw [HE.out, filA_over (fun h => hk1 h.1)])
      go_wp2_with (go_at_call 88; (with_reducible refine (HM.out _).mono ?_); rintro e w1 ⟨rfl, rfl⟩)
      go_step3
      go_wp2
      simp only [jumpsTo]
      go_ret
      exact ⟨by rw [HV.out]; rfl, rfl⟩
  · rintro l a' w' ⟨rfl, ⟨rfl, k, u4, u5, u6, u7, u8, u9, u10, u11, u12, u13, u14, u15, u16, u17, u18, u19, u20, u21, u22, u23, u24, u25, u26, u27, u28, u29, u30, u31, u32, u33, u34, u35, u36, u37, u38, u39, u40, u41, u42, rfl, HK⟩ | ⟨rfl, k, u4, u5, u6, u7, u8, u9, u10, u11, u12, u13, u14, u15, u16, u17, u18, u19, u20, u21, u22, u23, u24, u25, u26, u27, u28, u29, u30, u31, u32, u33, u34, u35, u36, u37, u38, u39, u40, u41, u42, rfl, hk50, HK⟩⟩
    · refine ⟨_, rfl, ?_⟩
      by_cases hin : k < s.size ∧ k < 38
      · obtain ⟨hk1, hk2⟩ := hin
        have HBK := Lib.hid (fun W => HB.out k W)
        have HF := Lib.hid (filA_step (s := s) (i := k) ⟨hk1, hk2⟩)
        cases hb : begS (s.extract (k) s.size) elmS
        · rw [hb] at HBK HF
          clear hb
          have HV := Lib.hid (HF.out.symm.trans HK.out)
          clear HF
          go_wp2_with (first
            | (go_at_call 88; (with_reducible refine (HM.out _).mono ?_); rintro e w1 ⟨rfl, rfl⟩)
            | (go_at_call 80; (with_reducible refine (HBK.out _).mono ?_); rintro e w1 ⟨rfl, rfl⟩)
            | (go_at_call 89; (with_reducible refine (HW.out _).mono ?_); rintro e w1 ⟨rfl, rfl⟩)
            | (go_at_call 90; (with_reducible refine (HPK.out _).mono ?_); rintro e w1 ⟨rfl, rfl⟩))
          go_step3
          refine ⟨⟨rfl, .inr ⟨rfl, k, _, _, _, _, _, _, _, _, _, _, _, _, _, _, _, _, _, _, _, _, _, _, _, _, _, _, _, _, _, _, _, _, _, _, _, _, _, _, _, by go_num, by omega, Lib.hid HV.out⟩⟩, ?_⟩
          simp [intOf]
          try omega
        · rw [hb] at HBK HF
          clear hb
          by_cases h2 : k + 2 < s.size
          · obtain ⟨b, hb, eb⟩ : ∃ b : UInt8, s[k + 2]'h2 = b ∧ Hid (s[k + 2]! = b) := ⟨_, rfl, getElem!_pos s (k + 2) h2⟩
            rw [eb.out] at HF
            have HW := Lib.hid (fun W => width_any b W)
            have hw1 := widB_pos b
            have hw8 := widB_le b
            generalize widB b = z at *
            by_cases h3 : k + 2 + z + 4 < s.size
            · have HPK := Lib.hid (fun W => HP.out (k + 2 + z) W)
              cases hp : padB (s.extract (k + 2 + z) s.size) wbmS
              · rw [hp] at HPK HF
                clear hp
                have HV := Lib.hid (show filA s (k + 2 + z + 1) = filA s 4 from by rw [← HK.out, HF.out, if_pos rfl, if_pos h2, if_pos h3]; rfl)
                clear HF
                go_wp2_with (first
                  | (go_at_call 88; (with_reducible refine (HM.out _).mono ?_); rintro e w1 ⟨rfl, rfl⟩)
                  | (go_at_call 80; (with_reducible refine (HBK.out _).mono ?_); rintro e w1 ⟨rfl, rfl⟩)
                  | (go_at_call 89; (with_reducible refine (HW.out _).mono ?_); rintro e w1 ⟨rfl, rfl⟩)
                  | (go_at_call 90; (with_reducible refine (HPK.out _).mono ?_); rintro e w1 ⟨rfl, rfl⟩))
                go_step3
                go_wp2
                go_step3
                refine ⟨⟨rfl, .inl ⟨rfl, k + 2 + z + 1, _, _, _, _, _, _, _, _, _, _, _, _, _, _, _, _, _, _, _, _, _, _, _, _, _, _, _, _, _, _, _, _, _, _, _, _, _, _, _, by go_num, Lib.hid HV.out⟩⟩, ?_⟩
                simp [intOf]
                try omega
              · rw [hp] at HPK HF
                clear hp
                have HV := Lib.hid (show filW s = true from by rw [HE.out, ← HK.out, HF.out, if_pos rfl, if_pos h2, if_pos h3]; rfl)
                clear HF
                go_wp2_with (first
                  | (go_at_call 88; (with_reducible refine (HM.out _).mono ?_); rintro e w1 ⟨rfl, rfl⟩)
                  | (go_at_call 80; (with_reducible refine (HBK.out _).mono ?_); rintro e w1 ⟨rfl, rfl⟩)
                  | (go_at_call 89; (with_reducible refine (HW.out _).mono ?_); rintro e w1 ⟨rfl, rfl⟩)
                  | (go_at_call 90; (with_reducible refine (HPK.out _).mono ?_); rintro e w1 ⟨rfl, rfl⟩))
                simp only [jumpsTo]
                go_ret
                exact ⟨by rw [HV.out]; rfl, rfl⟩
            · have HV := Lib.hid (show filW s = false from by rw [HE.out, ← HK.out, HF.out, if_pos rfl, if_pos h2, if_neg h3])
              clear HF
              go_wp2_with (first
                | (go_at_call 88; (with_reducible refine (HM.out _).mono ?_); rintro e w1 ⟨rfl, rfl⟩)
                | (go_at_call 80; (with_reducible refine (HBK.out _).mono ?_); rintro e w1 ⟨rfl, rfl⟩)
                | (go_at_call 89; (with_reducible refine (HW.out _).mono ?_); rintro e w1 ⟨rfl, rfl⟩)
                | (go_at_call 90; (with_reducible refine (HPK.out _).mono ?_); rintro e w1 ⟨rfl, rfl⟩))
              simp only [jumpsTo]
              go_ret
              exact ⟨by rw [HV.out]; rfl, rfl⟩
          · have HV := Lib.hid (show filW s = false from by rw [HE.out, ← HK.out, HF.out, if_pos rfl, if_neg h2])
            clear HF
            go_wp2_with (first
              | (go_at_call 88; (with_reducible refine (HM.out _).mono ?_); rintro e w1 ⟨rfl, rfl⟩)
              | (go_at_call 80; (with_reducible refine (HBK.out _).mono ?_); rintro e w1 ⟨rfl, rfl⟩)
              | (go_at_call 89; (with_reducible refine (HW.out _).mono ?_); rintro e w1 ⟨rfl, rfl⟩)
              | (go_at_call 90; (with_reducible refine (HPK.out _).mono ?_); rintro e w1 ⟨rfl, rfl⟩))
            simp only [jumpsTo]
            go_ret
            exact ⟨by rw [HV.out]; rfl, rfl⟩
      · have HV := Lib.hid (show filW s = false from by rw [HE.out, ← HK.out, filA_over hin])
        by_cases hk1 : k < s.size
        · have hk2 : ¬k < 38 := fun h => hin ⟨hk1, h⟩
          go_wp2
          simp only [jumpsTo]
          go_ret
          exact ⟨by rw [HV.out]; rfl, rfl⟩
        · go_wp2
          simp only [jumpsTo]
          go_ret
          exact ⟨by rw [HV.out]; rfl, rfl⟩
    · refine ⟨_, rfl, ?_⟩
      go_wp2
      go_step3
      refine ⟨⟨rfl, .inl ⟨rfl, k + 1, _, _, _, _, _, _, _, _, _, _, _, _, _, _, _, _, _, _, _, _, _, _, _, _, _, _, _, _, _, _, _, _, _, _, _, _, _, _, _, by go_num, HK⟩⟩, ?_⟩
      simp [intOf]
      try omega

theorem wis_any (s : ByteArray) (w : World) (hs : s.size ≤ 140737488355328) :
    Calls Tryz.prog 63 #[.string s] w fun e w' => e = .returned (.bool (filW s)) ∧ w = w' := by
  cases hm : begS s mrkS
  · exact wis_no s w hm
  · exact wis_mark s w hm hs

end Go.Proofs.YtkdjjlfpaciohaaGreatDoor
namespace Go.Proofs.YtkdjjlfpaciohaaGreatDoor
open Go.RowKit

/-- The bit that a first byte is held against when n bytes are reckoned. -/
def widP (n : Nat) : Nat := 128 / 2 ^ (n - 1)
theorem widP_next {n : Nat} (h : 1 ≤ n) : widP (n + 1) = widP n / 2 := by
  unfold widP
  rw [show n + 1 - 1 = (n - 1) + 1 from by omega, Nat.pow_succ, Nat.div_div_eq_div_mul]
theorem widP_le (n : Nat) : widP n ≤ 128 := Nat.div_le_self _ _
theorem widB_step (b : UInt8) {n : Nat} (h1 : 1 ≤ n) (h8 : n < 8) (h : n ≤ widB b) : (b.toNat < widP n → n + 1 ≤ widB b) ∧ (¬b.toNat < widP n → widB b = n) := by
  have := bytes_all (p := fun b => (List.range 8).all fun n => decide (n < 1) || (decide (widB b < n) || ((decide (b.toNat < widP n) && decide (n + 1 ≤ widB b)) || (!decide (b.toNat < widP n) && decide (widB b = n))))) (by kernel_rfl) b
  have := List.all_eq_true.1 this n (List.mem_range.2 h8)
  simp only [Bool.or_eq_true, Bool.and_eq_true, decide_eq_true_eq, Bool.not_eq_true', decide_eq_false_iff_not] at this
  omega

set_option maxHeartbeats 400000 in
theorem rwidth_any (b : UInt8) (w : World) :
    Calls Tryz.prog 95 #[.int .u8 (b.toNat : Int)] w fun e w' => e = .returned (.int .i64 (widB b : Nat)) ∧ w = w' := by
  have hb := b.toNat_lt
  have h1 := widB_pos b
  have hw8 := widB_le b
  have HS := Lib.hid (fun n => widB_step b (n := n))
  generalize widB b = K at *
  generalize b.toNat = B at *
  go_enter Tryz.func95, Tryz.ntmps95
  go_wp2
  go_loop [3, 4] (fun n p => ∃ k : Nat, 1 ≤ k ∧ k ≤ K ∧ n = .int .i64 k ∧ p = .int .i64 (widP k : Nat)) (fun n _ => 9 - (intOf n).toNat)
  case atStart => exact ⟨1, by omega, by omega, rfl, rfl⟩
  case round =>
    obtain ⟨k, hk1, hk, rfl, rfl⟩ := hrel
    have hp := widP_le k
    by_cases h8 : k < 8
    · have HT := Lib.hid (HS.out k hk1 h8 hk)
      have HP := Lib.hid (widP_next hk1)
      generalize widP k = p at *
      by_cases hlt : B < p
      · go_wp2
        go_round
        case rel => exact ⟨k + 1, by omega, HT.out.1 hlt, by go_num, by rw [HP.out]; go_num⟩
        case measure => simp [intOf]; omega
      · have hK := Lib.hid (HT.out.2 hlt)
        go_wp2
        go_ret
        exact ⟨by rw [hK.out]; rfl, rfl⟩
    · have hK := Lib.hid (show K = k from by omega)
      go_wp2
      go_ret
      exact ⟨by rw [hK.out]; rfl, rfl⟩

set_option maxHeartbeats 400000 in
theorem rbegins_any (s t : ByteArray) (w : World) (_hs : s.size ≤ 9223372036854775807) (_ht : t.size ≤ 9223372036854775807) :
    Calls Tryz.prog 94 #[.string s, .string t] w fun e w' => e = .returned (.bool (begS s t)) ∧ w = w' := by
  have hF := Lib.hid (show begS s t = (decide (t.size ≤ s.size) && (s.extract 0 t.size).toList == t.toList) from rfl)
  rw [hF.out]
  by_cases h : t.size ≤ s.size
  · go_enter Tryz.func94, Tryz.ntmps94
    go_wp2
    go_ret
    exact ⟨by simp [h], rfl⟩
  · go_enter Tryz.func94, Tryz.ntmps94
    go_wp2
    go_ret
    exact ⟨by simp [h], rfl⟩

set_option maxHeartbeats 1000000 in
theorem rpadded_any (s t : ByteArray) (w : World) (hs : s.size ≤ 9223372036854775806) (ht : t.size ≤ 9223372036854775807) :
    Calls Tryz.prog 96 #[.string s, .string t] w fun e w' => e = .returned (.bool (padB s t)) ∧ w = w' := by
  have HP := Lib.hid (show padA s t 0 = padB s t from rfl)
  have HB := Lib.hid (fun i W => rbegins_any (s.extract i s.size) t W (by simp; omega) ht)
  go_enter Tryz.func96, Tryz.ntmps96
  go_wp2
  go_loop [5] (fun i => ∃ k : Nat, k ≤ s.size + 1 ∧ i = .int .i64 k ∧ Hid (k ≤ s.size → padA s t k = padB s t) ∧ Hid (k = s.size + 1 → padB s t = false)) (fun i => s.size + 1 - (intOf i).toNat)
  case atStart => exact ⟨0, by omega, rfl, Lib.hid fun _ => HP.out, Lib.hid fun h => by omega⟩
  case round =>
    obtain ⟨k, hk1, rfl, HK, HL⟩ := hrel
    by_cases hk : k ≤ s.size
    · have HBK := Lib.hid (fun W => HB.out k W)
      have HH := Lib.hid (padA_here (s := s) (t := t) hk)
      have HE := Lib.hid (fun h2 => padA_end (s := s) (t := t) (i := k) h2)
      have HS := Lib.hid (fun h2 => padA_stop (s := s) (t := t) (i := k) h2)
      have HN := Lib.hid (fun h2 => padA_next (s := s) (t := t) (i := k) h2)
      have HKK := Lib.hid (HK.out hk)
      clear HB HK HL
      cases hc : begS (s.extract k s.size) t
      · rw [hc] at HBK
        by_cases hlt : k < s.size
        · obtain ⟨b, hb, eb⟩ : ∃ b : UInt8, s[k]'hlt = b ∧ Hid (s[k]! = b) := ⟨_, rfl, getElem!_pos s k hlt⟩
          by_cases hz : b = 0
          · subst hz
            have HV := Lib.hid (HN.out hlt hc eb.out)
            go_wp2_with (go_at_call 94; (with_reducible refine (HBK.out _).mono ?_); rintro e w1 ⟨rfl, rfl⟩)
            go_round
            case rel => exact ⟨k + 1, by omega, by go_num, Lib.hid fun _ => HV.out.symm.trans HKK.out, Lib.hid fun h => by omega⟩
            case measure => simp [intOf]; omega
          · have HV := Lib.hid (HKK.out.symm.trans (HS.out hlt hc (by rw [eb.out]; exact hz)))
            have hbz : ((b.toNat : Int) == 0) = false := byte_ne hz rfl
            go_wp2_with (go_at_call 94; (with_reducible refine (HBK.out _).mono ?_); rintro e w1 ⟨rfl, rfl⟩)
            go_ret
            exact ⟨by rw [HV.out]; rfl, rfl⟩
        · have HV := Lib.hid (HKK.out.symm.trans (HE.out (by omega) hc))
          go_wp2_with (go_at_call 94; (with_reducible refine (HBK.out _).mono ?_); rintro e w1 ⟨rfl, rfl⟩)
          go_round
          case rel => exact ⟨k + 1, by omega, by go_num, Lib.hid fun h => by omega, Lib.hid fun _ => HV.out⟩
          case measure => simp [intOf]; omega
      · rw [hc] at HBK
        have HV := Lib.hid (HKK.out.symm.trans (HH.out hc))
        go_wp2_with (go_at_call 94; (with_reducible refine (HBK.out _).mono ?_); rintro e w1 ⟨rfl, rfl⟩)
        go_ret
        exact ⟨by rw [HV.out]; rfl, rfl⟩
    · have HV := Lib.hid (HL.out (by omega))
      go_wp2
      go_ret
      exact ⟨by rw [HV.out]; rfl, rfl⟩

end Go.Proofs.YtkdjjlfpaciohaaGreatDoor

/-
  What package webm's functions but Is answer. Condition: the texts are not longer than memory.
  A scope in which the run jumps to labels, forward and back: what holds at every jump to each label, and a measure that every pass from a label lowers. No condition.
  What Is of package webm answers. Condition: the text is not longer than memory.
-/
import Derived.Test.YtjaockmbnjflaaaGreatDoorZ21
import Derived.Test.YtjaockmbnjflaaaGreatDoorZ7
import Derived.Laws.MakeOwn
import Derived.LoopTactic
import Derived.Test.YtjaockmbnjflaaaGreatDoorZ16
import Derived.WalkKit
import Derived.Lib.Hide
import Derived.ScopeJumps
import Derived.WalkMore
namespace Go.Proofs.YtjaockmbnjflaaaGreatDoor
open Go.RowKit

set_option maxHeartbeats 400000 in
theorem width_any (b : UInt8) (w : World) :
    Calls Tryz.prog 68 #[.int .u8 (b.toNat : Int)] w fun e w' => e = .returned (.int .i64 (widB b : Nat)) ∧ w = w' := by
  have hb := b.toNat_lt
  have HL := Lib.hid (fun W => bits_LeadingZeros8 (b.toNat : Int) W (by omega) (by omega))
  have hz : ((b.toNat : Int)).toNat = b.toNat := rfl
  rw [hz] at HL
  have HW := Lib.hid (widB_bits b)
  have hl : Lib.bitLen b.toNat ≤ 8 := by
    have := bytes_all (p := fun b => decide (Lib.bitLen b.toNat ≤ 8)) (by kernel_rfl) b
    simpa using this
  generalize Lib.bitLen b.toNat = l at *
  by_cases h0 : l = 0
  · subst h0
    rw [HW.out]
    go_enter Tryz.func68, Tryz.ntmps68
    go_wp2_with (go_at_call 90; (with_reducible refine (HL.out _).mono ?_); rintro e w1 ⟨rfl, rfl⟩)
    go_ret
    exact ⟨rfl, rfl⟩
  · have h1 : (1 + (8 - (l : Int))) ≤ 8 := by omega
    rw [HW.out, if_pos h1]
    go_enter Tryz.func68, Tryz.ntmps68
    go_wp2_with (go_at_call 90; (with_reducible refine (HL.out _).mono ?_); rintro e w1 ⟨rfl, rfl⟩)
    go_ret
    exact ⟨congrArg (fun n => Ending.returned (.int .i64 n)) (Int.min_eq_left h1), rfl⟩

set_option maxHeartbeats 400000 in
theorem unpadded_any (s : ByteArray) (w : World) :
    Calls Tryz.prog 91 #[.string s] w fun e w' => e = .returned (.string ⟨(Lib.trimLeftB s.data.toList 0).toArray⟩) ∧ w = w' := by
  have HL := Lib.hid (fun W => strings_TrimLeft_one s 0 (by decide) W)
  generalize (⟨(Lib.trimLeftB s.data.toList 0).toArray⟩ : ByteArray) = x at *
  go_enter Tryz.func91, Tryz.ntmps91
  go_wp2_with (go_at_call 116; (with_reducible refine (HL.out _).mono ?_); rintro e w1 ⟨rfl, rfl⟩)
  go_ret
  exact ⟨rfl, rfl⟩

theorem hasPrefix_beg (s t : ByteArray) (w : World) : Calls Tryz.prog 35 #[.string s, .string t] w fun e w' => e = .returned (.bool (begS s t)) ∧ w = w' :=
  (strings_HasPrefix s t w).mono fun _ _ ⟨h1, h2⟩ => ⟨by rw [h1, begS_list], h2.symm⟩
theorem trim_size (s : ByteArray) : (⟨(Lib.trimLeftB s.data.toList 0).toArray⟩ : ByteArray).size + lzL s.data.toList = s.size := by
  have h := trim_len s.data.toList
  have e : (⟨(Lib.trimLeftB s.data.toList 0).toArray⟩ : ByteArray).size = (Lib.trimLeftB s.data.toList 0).length := by
    show ((Lib.trimLeftB s.data.toList 0).toArray).size = _
    simp
  rw [e, Lib.size_eq s]
  unfold lzL
  omega

set_option maxHeartbeats 1000000 in
theorem padded_any (s t : ByteArray) (w : World) (hs : s.size ≤ 9223372036854775807) (ht : t.size ≤ 9223372036854775807) :
    Calls Tryz.prog 69 #[.string s, .string t] w fun e w' => e = .returned (.bool (padB s t)) ∧ w = w' := by
  have HS := Lib.hid (fun W => unpadded_any s W)
  have HT := Lib.hid (fun W => unpadded_any t W)
  have hz := trim_size s
  have hy := trim_size t
  have HP := Lib.hid (padB_list s t)
  have HB := Lib.hid (begS_list ⟨(Lib.trimLeftB s.data.toList 0).toArray⟩ ⟨(Lib.trimLeftB t.data.toList 0).toArray⟩)
  rw [show (⟨(Lib.trimLeftB s.data.toList 0).toArray⟩ : ByteArray).data.toList = Lib.trimLeftB s.data.toList 0 from by simp, show (⟨(Lib.trimLeftB t.data.toList 0).toArray⟩ : ByteArray).data.toList = Lib.trimLeftB t.data.toList 0 from by simp] at HB
  have HPP := Lib.hid (HP.out.trans (congrArg (fun q => (decide (lzL t.data.toList ≤ lzL s.data.toList) && q)) HB.out.symm))
  clear HP HB
  have HC := Lib.hid (fun W => hasPrefix_beg ⟨(Lib.trimLeftB s.data.toList 0).toArray⟩ ⟨(Lib.trimLeftB t.data.toList 0).toArray⟩ W)
  generalize (⟨(Lib.trimLeftB s.data.toList 0).toArray⟩ : ByteArray) = x at *
  generalize (⟨(Lib.trimLeftB t.data.toList 0).toArray⟩ : ByteArray) = y at *
  generalize lzL s.data.toList = a at *
  generalize lzL t.data.toList = b at *
  generalize begS x y = q at *
  rw [HPP.out]
  clear HPP
  have hx : x.size ≤ s.size := by omega
  have hyy : y.size ≤ t.size := by omega
  have hsa : (s.size : Int) - x.size = a := by omega
  have htb : (t.size : Int) - y.size = b := by omega
  clear hz hy
  by_cases hab : b ≤ a
  · rw [decide_eq_true hab]
    go_enter Tryz.func69, Tryz.ntmps69
    go_wp2_with (first
      | (go_at_call 91; (first | with_reducible refine (HS.out _).mono ?_ | with_reducible refine (HT.out _).mono ?_); rintro e w1 ⟨rfl, rfl⟩)
      | (go_at_call 35; (with_reducible refine (HC.out _).mono ?_); rintro e w1 ⟨rfl, rfl⟩))
    go_ret
    exact ⟨by simp, rfl⟩
  · rw [decide_eq_false hab]
    go_enter Tryz.func69, Tryz.ntmps69
    go_wp2_with (first
      | (go_at_call 91; (first | with_reducible refine (HS.out _).mono ?_ | with_reducible refine (HT.out _).mono ?_); rintro e w1 ⟨rfl, rfl⟩)
      | (go_at_call 35; (with_reducible refine (HC.out _).mono ?_); rintro e w1 ⟨rfl, rfl⟩))
    go_ret
    exact ⟨by simp, rfl⟩

theorem mark_any (s : ByteArray) (w : World) :
    Calls Tryz.prog 67 #[.string s] w fun e w' => e = .returned (.bool (begS s mrkS)) ∧ w = w' := by
  have HC := Lib.hid (fun W => hasPrefix_beg s mrkS W)
  generalize begS s mrkS = q at *
  go_enter Tryz.func67, Tryz.ntmps67
  go_wp2_with (go_at_call 35; (with_reducible refine (HC.out _).mono ?_); rintro e w1 ⟨rfl, rfl⟩)
  go_ret
  exact ⟨rfl, rfl⟩

end Go.Proofs.YtjaockmbnjflaaaGreatDoor
namespace Go.Proofs.YtjaockmbnjflaaaGreatDoor

/-- As Q; by a goto to label l: J l. -/
def jumpsTo (J : Nat → Act → World → Prop) (Q : Exit → Act → World → Prop) : Exit → Act → World → Prop
  | .goto l, a, w => J l a w
  | e, a, w => Q e a w

theorem scope_jumps {P : Program} {a : Act} {w : World} {Q : Exit → Act → World → Prop} {c : Code} (J : Nat → Act → World → Prop) (μ : Nat → Act → World → Nat)
    (first : c.wp P (jumpsTo J Q) a w)
    (pass : ∀ l a w, J l a w → ∃ rest, findLabel c l = some rest ∧ rest.wp P (jumpsTo (fun l' a' w' => J l' a' w' ∧ μ l' a' w' < μ l a w) Q) a w) : (Code.scope c).wp P Q a w := by
  intro b k cs
  have hg : ∀ l rest, findLabel c l = some rest → gotoIn l (.inScope c :: k) = some (.code rest :: .inScope c :: k) := fun l rest hf => by simp [gotoIn, hf]
  have key : ∀ n l a w rest, μ l a w = n → J l a w → findLabel c l = some rest → ∃ e a' w', Q e a' w' ∧ Arrives P (lone (b.at a (.code rest :: .inScope c :: k)) cs w) b k cs e a' w' := by
    intro n
    induction n using Nat.strongRecOn with
    | _ n ih =>
      intro l a w rest hn hJ hf
      obtain ⟨rest', hf', hp⟩ := pass l a w hJ
      obtain rfl : rest = rest' := Option.some.inj (hf.symm.trans hf')
      obtain ⟨e, a₁, w₁, hq, harr⟩ := hp b (.inScope c :: k) cs
      cases e with
      | normal => exact ⟨.normal, a₁, w₁, hq, Steps.trans harr (.one step_inScope)⟩
      | exit id => exact ⟨.exit id, a₁, w₁, hq, fun k' hk => harr k' (by simp [exitTo, hk])⟩
      | goto l' =>
        obtain ⟨hJ', hlt⟩ := hq
        obtain ⟨rest₂, hf₂, _⟩ := pass l' a₁ w₁ hJ'
        obtain ⟨e₂, a₂, w₂, hq₂, harr₂⟩ := ih _ (by omega) l' a₁ w₁ rest₂ rfl hJ' hf₂
        exact ⟨e₂, a₂, w₂, hq₂, .of_steps (harr _ (hg l' rest₂ hf₂)) harr₂⟩
      | ret => exact ⟨_, a₁, w₁, hq, harr⟩
      | panic ch => exact ⟨_, a₁, w₁, hq, harr⟩
      | outgrown => exact ⟨_, a₁, w₁, hq, harr⟩
  obtain ⟨e, a₁, w₁, hq, harr⟩ := first b (.inScope c :: k) cs
  cases e with
  | normal => exact ⟨.normal, a₁, w₁, hq, .head step_scope (Steps.trans harr (.one step_inScope))⟩
  | exit id => exact ⟨.exit id, a₁, w₁, hq, fun k' hk => .head step_scope (harr k' (by simp [exitTo, hk]))⟩
  | goto l' =>
    obtain ⟨rest₂, hf₂, _⟩ := pass l' a₁ w₁ hq
    obtain ⟨e₂, a₂, w₂, hq₂, harr₂⟩ := key _ l' a₁ w₁ rest₂ rfl hq hf₂
    exact ⟨e₂, a₂, w₂, hq₂, .of_steps (.head step_scope (harr _ (hg l' rest₂ hf₂))) harr₂⟩
  | ret => exact ⟨_, a₁, w₁, hq, .of_steps (.one step_scope) harr⟩
  | panic ch => exact ⟨_, a₁, w₁, hq, .of_steps (.one step_scope) harr⟩
  | outgrown => exact ⟨_, a₁, w₁, hq, .of_steps (.one step_scope) harr⟩

end Go.Proofs.YtjaockmbnjflaaaGreatDoor
namespace Go.Proofs.YtjaockmbnjflaaaGreatDoor
open Go.RowKit

set_option maxHeartbeats 400000 in
theorem wis_no (s : ByteArray) (w : World) (hm : begS s mrkS = false) :
    Calls Tryz.prog 43 #[.string s] w fun e w' => e = .returned (.bool (filW s)) ∧ w = w' := by
  have HM := Lib.hid (fun W => mark_any s W)
  have HE := Lib.hid (show filW s = false from by unfold filW; rw [hm]; rfl)
  rw [hm] at HM
  rw [HE.out]
  clear HE hm
  go_enter Tryz.func43, Tryz.ntmps43
  go_wp2
  go_step3
  go_wp2_with (go_at_call 67; (with_reducible refine (HM.out _).mono ?_); rintro e w1 ⟨rfl, rfl⟩)
  rw [Exit.noGoto_ret]
  go_ret
  exact ⟨rfl, rfl⟩

set_option maxHeartbeats 4000000 in
set_option maxRecDepth 100000 in
theorem wis_mark (s : ByteArray) (w : World) (hm : begS s mrkS = true) (hs : s.size ≤ 140737488355328) :
    Calls Tryz.prog 43 #[.string s] w fun e w' => e = .returned (.bool (filW s)) ∧ w = w' := by
  have HM := Lib.hid (fun W => mark_any s W)
  have HE := Lib.hid (show filW s = filA s 4 from by unfold filW; rw [hm]; rfl)
  rw [hm] at HM
  clear hm
  have HB := Lib.hid (fun i W => hasPrefix_beg (s.extract i s.size) elmS W)
  have HP := Lib.hid (fun i W => padded_any (s.extract i s.size) wbmS W (by simp; omega) (by decide))
  go_enter Tryz.func43, Tryz.ntmps43
  go_wp2
  refine scope_jumps
    (fun l a' w' => w' = w ∧ ((l = 0 ∧ ∃ (k : Nat) (u4 u5 u6 u7 u8 u9 u10 u11 u12 u13 u14 u15 u16 u17 u18 u19 u20 u21 u22 u23 u24 u25 u26 u27 u28 u29 u30 u31 u32 u33 u34 u35 u36 u37 u38 u39 u40 u41 u42 : Value), a' = { tmps := #[.string s, undef, .bool false, .int .i64 (k : Nat), u4, u5, u6, u7, u8, u9, u10, u11, u12, u13, u14, u15, u16, u17, u18, u19, u20, u21, u22, u23, u24, u25, u26, u27, u28, u29, u30, u31, u32, u33, u34, u35, u36, u37, u38, u39, u40, u41, u42], defers := [] } ∧ Hid (filA s k = filA s 4)) ∨ (l = 1 ∧ ∃ (k : Nat) (u4 u5 u6 u7 u8 u9 u10 u11 u12 u13 u14 u15 u16 u17 u18 u19 u20 u21 u22 u23 u24 u25 u26 u27 u28 u29 u30 u31 u32 u33 u34 u35 u36 u37 u38 u39 u40 u41 u42 : Value), a' = { tmps := #[.string s, undef, .bool false, .int .i64 (k : Nat), u4, u5, u6, u7, u8, u9, u10, u11, u12, u13, u14, u15, u16, u17, u18, u19, u20, u21, u22, u23, u24, u25, u26, u27, u28, u29, u30, u31, u32, u33, u34, u35, u36, u37, u38, u39, u40, u41, u42], defers := [] } ∧ k ≤ 50 ∧ Hid (filA s (k + 1) = filA s 4))))
    (fun l a' _ => 2 * (60 - (intOf (a'.tmps.getD 3 undef)).toNat) - l) ?_ ?_
  · have HK : Hid (filA s 4 = filA s 4) := Lib.hid rfl
    by_cases hk1 : 4 < s.size
    · have HBK := Lib.hid (fun W => HB.out 4 W)
      have HF := Lib.hid (filA_step (s := s) (i := 4) ⟨hk1, by omega⟩)
      cases hb : begS (s.extract (4) s.size) elmS
      · rw [hb] at HBK HF
        clear hb
        have HV := Lib.hid (HF.out.symm.trans HK.out)
        clear HF
        go_wp2_with (first
          | (go_at_call 67; (with_reducible refine (HM.out _).mono ?_); rintro e w1 ⟨rfl, rfl⟩)
          | (go_at_call 35; (with_reducible refine (HBK.out _).mono ?_); rintro e w1 ⟨rfl, rfl⟩)
          | (go_at_call 68; (with_reducible refine (HW.out _).mono ?_); rintro e w1 ⟨rfl, rfl⟩)
          | (go_at_call 69; (with_reducible refine (HPK.out _).mono ?_); rintro e w1 ⟨rfl, rfl⟩))
        go_step3
        go_wp2_with (first
          | (go_at_call 67; (with_reducible refine (HM.out _).mono ?_); rintro e w1 ⟨rfl, rfl⟩)
          | (go_at_call 35; (with_reducible refine (HBK.out _).mono ?_); rintro e w1 ⟨rfl, rfl⟩)
          | (go_at_call 68; (with_reducible refine (HW.out _).mono ?_); rintro e w1 ⟨rfl, rfl⟩)
          | (go_at_call 69; (with_reducible refine (HPK.out _).mono ?_); rintro e w1 ⟨rfl, rfl⟩))
        go_step3
        exact ⟨rfl, .inr ⟨rfl, 4, _, _, _, _, _, _, _, _, _, _, _, _, _, _, _, _, _, _, _, _, _, _, _, _, _, _, _, _, _, _, _, _, _, _, _, _, _, _, _, by go_num, by omega, Lib.hid HV.out⟩⟩
      · rw [hb] at HBK HF
        clear hb
        by_cases h2 : 4 + 2 < s.size
        · obtain ⟨b, hb, eb⟩ : ∃ b : UInt8, s[4 + 2]'h2 = b ∧ Hid (s[4 + 2]! = b) := ⟨_, rfl, getElem!_pos s (4 + 2) h2⟩
          rw [eb.out] at HF
          have HW := Lib.hid (fun W => width_any b W)
          have hw1 := widB_pos b
          have hw8 := widB_le b
          generalize widB b = z at *
          by_cases h3 : 4 + 2 + z + 4 < s.size
          · have HPK := Lib.hid (fun W => HP.out (4 + 2 + z) W)
            cases hp : padB (s.extract (4 + 2 + z) s.size) wbmS
            · rw [hp] at HPK HF
              clear hp
              have HV := Lib.hid (show filA s (4 + 2 + z + 1) = filA s 4 from by rw [← HK.out, HF.out, if_pos rfl, if_pos h2, if_pos h3]; rfl)
              clear HF
              go_wp2_with (first
                | (go_at_call 67; (with_reducible refine (HM.out _).mono ?_); rintro e w1 ⟨rfl, rfl⟩)
                | (go_at_call 35; (with_reducible refine (HBK.out _).mono ?_); rintro e w1 ⟨rfl, rfl⟩)
                | (go_at_call 68; (with_reducible refine (HW.out _).mono ?_); rintro e w1 ⟨rfl, rfl⟩)
                | (go_at_call 69; (with_reducible refine (HPK.out _).mono ?_); rintro e w1 ⟨rfl, rfl⟩))
              go_step3
              go_wp2_with (first
                | (go_at_call 67; (with_reducible refine (HM.out _).mono ?_); rintro e w1 ⟨rfl, rfl⟩)
                | (go_at_call 35; (with_reducible refine (HBK.out _).mono ?_); rintro e w1 ⟨rfl, rfl⟩)
                | (go_at_call 68; (with_reducible refine (HW.out _).mono ?_); rintro e w1 ⟨rfl, rfl⟩)
                | (go_at_call 69; (with_reducible refine (HPK.out _).mono ?_); rintro e w1 ⟨rfl, rfl⟩))
              go_step3
              go_wp2
              go_step3
              exact ⟨rfl, .inl ⟨rfl, 4 + 2 + z + 1, _, _, _, _, _, _, _, _, _, _, _, _, _, _, _, _, _, _, _, _, _, _, _, _, _, _, _, _, _, _, _, _, _, _, _, _, _, _, _, by go_num, Lib.hid HV.out⟩⟩
            · rw [hp] at HPK HF
              clear hp
              have HV := Lib.hid (show filW s = true from by rw [HE.out, ← HK.out, HF.out, if_pos rfl, if_pos h2, if_pos h3]; rfl)
              clear HF
              go_wp2_with (first
                | (go_at_call 67; (with_reducible refine (HM.out _).mono ?_); rintro e w1 ⟨rfl, rfl⟩)
                | (go_at_call 35; (with_reducible refine (HBK.out _).mono ?_); rintro e w1 ⟨rfl, rfl⟩)
                | (go_at_call 68; (with_reducible refine (HW.out _).mono ?_); rintro e w1 ⟨rfl, rfl⟩)
                | (go_at_call 69; (with_reducible refine (HPK.out _).mono ?_); rintro e w1 ⟨rfl, rfl⟩))
              go_step3
              go_wp2_with (first
                | (go_at_call 67; (with_reducible refine (HM.out _).mono ?_); rintro e w1 ⟨rfl, rfl⟩)
                | (go_at_call 35; (with_reducible refine (HBK.out _).mono ?_); rintro e w1 ⟨rfl, rfl⟩)
                | (go_at_call 68; (with_reducible refine (HW.out _).mono ?_); rintro e w1 ⟨rfl, rfl⟩)
                | (go_at_call 69; (with_reducible refine (HPK.out _).mono ?_); rintro e w1 ⟨rfl, rfl⟩))
              simp only [jumpsTo]
              go_ret
              exact ⟨by rw [HV.out]; rfl, rfl⟩
          · have HV := Lib.hid (show filW s = false from by rw [HE.out, ← HK.out, HF.out, if_pos rfl, if_pos h2, if_neg h3])
            clear HF
            go_wp2_with (first
              | (go_at_call 67; (with_reducible refine (HM.out _).mono ?_); rintro e w1 ⟨rfl, rfl⟩)
              | (go_at_call 35; (with_reducible refine (HBK.out _).mono ?_); rintro e w1 ⟨rfl, rfl⟩)
              | (go_at_call 68; (with_reducible refine (HW.out _).mono ?_); rintro e w1 ⟨rfl, rfl⟩)
              | (go_at_call 69; (with_reducible refine (HPK.out _).mono ?_); rintro e w1 ⟨rfl, rfl⟩))
            go_step3
            go_wp2_with (first
              | (go_at_call 67; (with_reducible refine (HM.out _).mono ?_); rintro e w1 ⟨rfl, rfl⟩)
              | (go_at_call 35; (with_reducible refine (HBK.out _).mono ?_); rintro e w1 ⟨rfl, rfl⟩)
              | (go_at_call 68; (with_reducible refine (HW.out _).mono ?_); rintro e w1 ⟨rfl, rfl⟩)
              | (go_at_call 69; (with_reducible refine (HPK.out _).mono ?_); rintro e w1 ⟨rfl, rfl⟩))
            simp only [jumpsTo]
            go_ret
            exact ⟨by rw [HV.out]; rfl, rfl⟩
        · have HV := Lib.hid (show filW s = false from by rw [HE.out, ← HK.out, HF.out, if_pos rfl, if_neg h2])
          clear HF
          go_wp2_with (first
            | (go_at_call 67; (with_reducible refine (HM.out _).mono ?_); rintro e w1 ⟨rfl, rfl⟩)
            | (go_at_call 35; (with_reducible refine (HBK.out _).mono ?_); rintro e w1 ⟨rfl, rfl⟩)
            | (go_at_call 68; (with_reducible refine (HW.out _).mono ?_); rintro e w1 ⟨rfl, rfl⟩)
            | (go_at_call 69; (with_reducible refine (HPK.out _).mono ?_); rintro e w1 ⟨rfl, rfl⟩))
          go_step3
          go_wp2_with (first
            | (go_at_call 67; (with_reducible refine (HM.out _).mono ?_); rintro e w1 ⟨rfl, rfl⟩)
            | (go_at_call 35; (with_reducible refine (HBK.out _).mono ?_); rintro e w1 ⟨rfl, rfl⟩)
            | (go_at_call 68; (with_reducible refine (HW.out _).mono ?_); rintro e w1 ⟨rfl, rfl⟩)
            | (go_at_call 69; (with_reducible refine (HPK.out _).mono ?_); rintro e w1 ⟨rfl, rfl⟩))
          simp only [jumpsTo]
          go_ret
          exact ⟨by rw [HV.out]; rfl, rfl⟩
    · have HV := Lib.hid (show filW s = false from by rw [HE.out, filA_over (fun h => hk1 h.1)])
      go_wp2_with (go_at_call 67; (with_reducible refine (HM.out _).mono ?_); rintro e w1 ⟨rfl, rfl⟩)
      go_step3
      go_wp2
      simp only [jumpsTo]
      go_ret
      exact ⟨by rw [HV.out]; rfl, rfl⟩
  · rintro l a' w' ⟨rfl, ⟨rfl, k, u4, u5, u6, u7, u8, u9, u10, u11, u12, u13, u14, u15, u16, u17, u18, u19, u20, u21, u22, u23, u24, u25, u26, u27, u28, u29, u30, u31, u32, u33, u34, u35, u36, u37, u38, u39, u40, u41, u42, rfl, HK⟩ | ⟨rfl, k, u4, u5, u6, u7, u8, u9, u10, u11, u12, u13, u14, u15, u16, u17, u18, u19, u20, u21, u22, u23, u24, u25, u26, u27, u28, u29, u30, u31, u32, u33, u34, u35, u36, u37, u38, u39, u40, u41, u42, rfl, hk50, HK⟩⟩
    · refine ⟨_, rfl, ?_⟩
      by_cases hin : k < s.size ∧ k < 38
      · obtain ⟨hk1, hk2⟩ := hin
        have HBK := Lib.hid (fun W => HB.out k W)
        have HF := Lib.hid (filA_step (s := s) (i := k) ⟨hk1, hk2⟩)
        cases hb : begS (s.extract (k) s.size) elmS
        · rw [hb] at HBK HF
          clear hb
          have HV := Lib.hid (HF.out.symm.trans HK.out)
          clear HF
          go_wp2_with (first
            | (go_at_call 67; (with_reducible refine (HM.out _).mono ?_); rintro e w1 ⟨rfl, rfl⟩)
            | (go_at_call 35; (with_reducible refine (HBK.out _).mono ?_); rintro e w1 ⟨rfl, rfl⟩)
            | (go_at_call 68; (with_reducible refine (HW.out _).mono ?_); rintro e w1 ⟨rfl, rfl⟩)
            | (go_at_call 69; (with_reducible refine (HPK.out _).mono ?_); rintro e w1 ⟨rfl, rfl⟩))
          go_step3
          refine ⟨⟨rfl, .inr ⟨rfl, k, _, _, _, _, _, _, _, _, _, _, _, _, _, _, _, _, _, _, _, _, _, _, _, _, _, _, _, _, _, _, _, _, _, _, _, _, _, _, _, by go_num, by omega, Lib.hid HV.out⟩⟩, ?_⟩
          simp [intOf]
          try omega
        · rw [hb] at HBK HF
          clear hb
          by_cases h2 : k + 2 < s.size
          · obtain ⟨b, hb, eb⟩ : ∃ b : UInt8, s[k + 2]'h2 = b ∧ Hid (s[k + 2]! = b) := ⟨_, rfl, getElem!_pos s (k + 2) h2⟩
            rw [eb.out] at HF
            have HW := Lib.hid (fun W => width_any b W)
            have hw1 := widB_pos b
            have hw8 := widB_le b
            generalize widB b = z at *
            by_cases h3 : k + 2 + z + 4 < s.size
            · have HPK := Lib.hid (fun W => HP.out (k + 2 + z) W)
              cases hp : padB (s.extract (k + 2 + z) s.size) wbmS
              · rw [hp] at HPK HF
                clear hp
                have HV := Lib.hid (show filA s (k + 2 + z + 1) = filA s 4 from by rw [← HK.out, HF.out, if_pos rfl, if_pos h2, if_pos h3]; rfl)
                clear HF
                go_wp2_with (first
                  | (go_at_call 67; (with_reducible refine (HM.out _).mono ?_); rintro e w1 ⟨rfl, rfl⟩)
                  | (go_at_call 35; (with_reducible refine (HBK.out _).mono ?_); rintro e w1 ⟨rfl, rfl⟩)
                  | (go_at_call 68; (with_reducible refine (HW.out _).mono ?_); rintro e w1 ⟨rfl, rfl⟩)
                  | (go_at_call 69; (with_reducible refine (HPK.out _).mono ?_); rintro e w1 ⟨rfl, rfl⟩))
                go_step3
                go_wp2
                go_step3
                refine ⟨⟨rfl, .inl ⟨rfl, k + 2 + z + 1, _, _, _, _, _, _, _, _, _, _, _, _, _, _, _, _, _, _, _, _, _, _, _, _, _, _, _, _, _, _, _, _, _, _, _, _, _, _, _, by go_num, Lib.hid HV.out⟩⟩, ?_⟩
                simp [intOf]
                try omega
              · rw [hp] at HPK HF
                clear hp
                have HV := Lib.hid (show filW s = true from by rw [HE.out, ← HK.out, HF.out, if_pos rfl, if_pos h2, if_pos h3]; rfl)
                clear HF
                go_wp2_with (first
                  | (go_at_call 67; (with_reducible refine (HM.out _).mono ?_); rintro e w1 ⟨rfl, rfl⟩)
                  | (go_at_call 35; (with_reducible refine (HBK.out _).mono ?_); rintro e w1 ⟨rfl, rfl⟩)
                  | (go_at_call 68; (with_reducible refine (HW.out _).mono ?_); rintro e w1 ⟨rfl, rfl⟩)
                  | (go_at_call 69; (with_reducible refine (HPK.out _).mono ?_); rintro e w1 ⟨rfl, rfl⟩))
                simp only [jumpsTo]
                go_ret
                exact ⟨by rw [HV.out]; rfl, rfl⟩
            · have HV := Lib.hid (show filW s = false from by rw [HE.out, ← HK.out, HF.out, if_pos rfl, if_pos h2, if_neg h3])
              clear HF
              go_wp2_with (first
                | (go_at_call 67; (with_reducible refine (HM.out _).mono ?_); rintro e w1 ⟨rfl, rfl⟩)
                | (go_at_call 35; (with_reducible refine (HBK.out _).mono ?_); rintro e w1 ⟨rfl, rfl⟩)
                | (go_at_call 68; (with_reducible refine (HW.out _).mono ?_); rintro e w1 ⟨rfl, rfl⟩)
                | (go_at_call 69; (with_reducible refine (HPK.out _).mono ?_); rintro e w1 ⟨rfl, rfl⟩))
              simp only [jumpsTo]
              go_ret
              exact ⟨by rw [HV.out]; rfl, rfl⟩
          · have HV := Lib.hid (show filW s = false from by rw [HE.out, ← HK.out, HF.out, if_pos rfl, if_neg h2])
            clear HF
            go_wp2_with (first
              | (go_at_call 67; (with_reducible refine (HM.out _).mono ?_); rintro e w1 ⟨rfl, rfl⟩)
              | (go_at_call 35; (with_reducible refine (HBK.out _).mono ?_); rintro e w1 ⟨rfl, rfl⟩)
              | (go_at_call 68; (with_reducible refine (HW.out _).mono ?_); rintro e w1 ⟨rfl, rfl⟩)
              | (go_at_call 69; (with_reducible refine (HPK.out _).mono ?_); rintro e w1 ⟨rfl, rfl⟩))
            simp only [jumpsTo]
            go_ret
            exact ⟨by rw [HV.out]; rfl, rfl⟩
      · have HV := Lib.hid (show filW s = false from by rw [HE.out, ← HK.out, filA_over hin])
        by_cases hk1 : k < s.size
        · have hk2 : ¬k < 38 := fun h => hin ⟨hk1, h⟩
          go_wp2
          simp only [jumpsTo]
          go_ret
          exact ⟨by rw [HV.out]; rfl, rfl⟩
        · go_wp2
          simp only [jumpsTo]
          go_ret
          exact ⟨by rw [HV.out]; rfl, rfl⟩
    · refine ⟨_, rfl, ?_⟩
      go_wp2
      go_step3
      refine ⟨⟨rfl, .inl ⟨rfl, k + 1, _, _, _, _, _, _, _, _, _, _, _, _, _, _, _, _, _, _, _, _, _, _, _, _, _, _, _, _, _, _, _, _, _, _, _, _, _, _, _, by go_num, HK⟩⟩, ?_⟩
      simp [intOf]
      try omega

theorem wis_any (s : ByteArray) (w : World) (hs : s.size ≤ 140737488355328) :
    Calls Tryz.prog 43 #[.string s] w fun e w' => e = .returned (.bool (filW s)) ∧ w = w' := by
  cases hm : begS s mrkS
  · exact wis_no s w hm
  · exact wis_mark s w hm hs

end Go.Proofs.YtjaockmbnjflaaaGreatDoor

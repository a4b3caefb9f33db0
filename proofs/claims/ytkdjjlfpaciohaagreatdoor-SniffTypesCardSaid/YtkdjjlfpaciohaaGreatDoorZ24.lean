/-
  What the document's Size, Head, Brands, Is, Boxes and Box of layer 16 answer. Condition: the text takes at most 2^40 bytes; a box's name and contents are short.
  What the document's Is, Boxes and Box of layer 16 answer. Condition: the text takes at most 2^40 bytes; a box's name and contents are short.
  Plain facts on films of elements: how many bytes a number has, which number it is, what is written. No condition.
-/
import Derived.Test.YtkdjjlfpaciohaaGreatDoorZ22
import Derived.Test.YtkdjjlfpaciohaaGreatDoorZ9
import Derived.Test.YtkdjjlfpaciohaaGreatDoorZ13
import Derived.Test.YtkdjjlfpaciohaaGreatDoorZ23
import Derived.Test.YtkdjjlfpaciohaaGreatDoorZ20
import Derived.Test.YtkdjjlfpaciohaaGreatDoorZ16
import Derived.OwnWalk
import Derived.Laws.OwnMore
import Derived.BigQuiet
import Derived.Lib.SlBytesRow
import Derived.Lib.SmallJoins
import Derived.Lib.Hide
import Derived.Outline
import Derived.WalkKit
import Derived.Lib.SlBytesConst
import Derived.Test.YtkdjjlfpaciohaaGreatDoorZ11
import Derived.Test.YtkdjjlfpaciohaaGreatDoorZ2
import Derived.Test.YtkdjjlfpaciohaaGreatDoorZ1
import Derived.Deep.QuietTactic
import Derived.LoopTactic
namespace Go.Proofs.YtkdjjlfpaciohaaGreatDoor
open Go.RowKit

/-- The document's number of the first box: below 0, if there is none. -/
def sizI (s : ByteArray) : Int := if 4 ≤ s.size then (fourB s 0 : Int) else -1

set_option maxHeartbeats 1000000 in
theorem rsize16_any (s : ByteArray) (w : World) (hs : s.size ≤ 9223372036854775807) :
    Calls Tryz.prog 123 #[.string s] w fun e w' => e = .returned (.int .i64 (sizI s)) ∧ ∃ m, w' = w.drewN m := by
  by_cases h4 : 4 ≤ s.size
  · have HE := Lib.hid (show sizI s = ((((s[0].toNat : Int) * 256 + (s[1].toNat : Int)) * 256 + (s[2].toNat : Int)) * 256 + (s[3].toNat : Int)) from by
      unfold sizI fourB
      rw [if_pos h4, getElem!_pos s 0 (by omega), getElem!_pos s (0 + 1) (by omega), getElem!_pos s (0 + 2) (by omega), getElem!_pos s (0 + 3) (by omega)]
      simp)
    obtain ⟨a0, hi0⟩ : ∃ a : UInt8, s[0]'(by omega) = a := ⟨_, rfl⟩
    obtain ⟨a1, hi1⟩ : ∃ a : UInt8, s[1]'(by omega) = a := ⟨_, rfl⟩
    obtain ⟨a2, hi2⟩ : ∃ a : UInt8, s[2]'(by omega) = a := ⟨_, rfl⟩
    obtain ⟨a3, hi3⟩ : ∃ a : UInt8, s[3]'(by omega) = a := ⟨_, rfl⟩
    rw [hi0, hi1, hi2, hi3] at HE
    have h0 := a0.toNat_lt
    have h1 := a1.toNat_lt
    have h2 := a2.toNat_lt
    have h3 := a3.toNat_lt
    go_enter Tryz.func123, Tryz.ntmps123
    go_wp2
    go_quiet (fail)
    go_wp2
    go_ret
    exact ⟨by rw [HE.out]; rfl, _, rfl⟩
  · rw [show sizI s = -1 from if_neg h4]
    go_enter Tryz.func123, Tryz.ntmps123
    go_wp2
    go_ret
    exact ⟨rfl, 0, rfl⟩

set_option maxHeartbeats 1000000 in
theorem rhead16_any (s : ByteArray) (w : World) (hs : s.size ≤ 9223372036854775807) :
    Calls Tryz.prog 122 #[.string s] w fun e w' => e = .returned (.bool (filmH s)) ∧ ∃ m, w' = w.drewN m := by
  by_cases h0 : 12 ≤ s.size
  · have HF := Lib.hid (fun W => rsize16_any s W hs)
    rw [show sizI s = (fourB s 0 : Int) from if_pos (by omega)] at HF
    have hn := fourB_lt s 0
    have HX := Lib.hid (filmH_far (s := s))
    have HY := Lib.hid (filmH_odd (s := s))
    have HZ := Lib.hid (fun h1 h2 => filmH_else (s := s) h0 h1 h2)
    have hft : Hid (ftypB s = ((s.extract 4 8).toList == [102, 116, 121, 112])) := by unfold ftypB; rw [show ftypS.toList = [102, 116, 121, 112] from by kernel_rfl]; exact rfl
    generalize fourB s 0 = n at *
    by_cases h1 : n ≤ s.size
    · by_cases h2 : n % 4 = 0
      · have HV := Lib.hid (HZ.out h1 h2)
        cases hc : ((s.extract 4 8).toList == [102, 116, 121, 112])
        all_goals
          have HE := Lib.hid (show filmH s = _ from HV.out.trans (hft.out.trans hc))
          rw [HE.out]
          clear HX HY HZ HV hft HE
          go_enter Tryz.func122, Tryz.ntmps122
          go_wp2_with (go_at_call 123; refine (HF.out _).mono ?_; rintro e w1 ⟨rfl, m, rfl⟩)
          go_ret
          exact ⟨rfl, _, rfl⟩
      · have HV := Lib.hid (HY.out h2)
        rw [HV.out]
        clear HX HY HZ HV hft
        go_enter Tryz.func122, Tryz.ntmps122
        go_wp2_with (go_at_call 123; refine (HF.out _).mono ?_; rintro e w1 ⟨rfl, m, rfl⟩)
        go_ret
        exact ⟨rfl, _, rfl⟩
    · have HV := Lib.hid (HX.out h1)
      rw [HV.out]
      clear HX HY HZ HV hft
      go_enter Tryz.func122, Tryz.ntmps122
      go_wp2_with (go_at_call 123; refine (HF.out _).mono ?_; rintro e w1 ⟨rfl, m, rfl⟩)
      go_ret
      exact ⟨rfl, _, rfl⟩
  · rw [filmH_short h0]
    go_enter Tryz.func122, Tryz.ntmps122
    go_wp2
    go_ret
    exact ⟨rfl, 0, rfl⟩

set_option maxHeartbeats 4000000 in
theorem rbrands16_any (s : ByteArray) (w : World) (hs : s.size ≤ 1099511627776) :
    Calls Tryz.prog 93 #[.string s] w (NewStrs (namL s (namN s)) w) := by
  obtain ⟨i0, hi, hz0, hz1, hz2⟩ := info_parts Tryz.info9
  have HH := Lib.hid (fun W => rhead16_any s W (by omega))
  have HO0 := Lib.hid (show (w.alloc (.cells #[] 9)).ownsRow w.heap.size 9 1 (.slice (some ⟨w.heap.size, 0, none⟩) 0 0) 0 [] from World.ownsRow_made w #[] 0 (Nat.le_refl _) (Nat.zero_le _) rfl)
  have HB0 := Lib.hid (show Below w.heap.size w (w.alloc (.cells #[] 9)) from (Below.refl _ _).alloc (Nat.le_refl _) _)
  have hnn := namN_le s
  cases hh : filmH s
  · have HN := Lib.hid (namN_none hh)
    rw [hh] at HH
    clear hh
    go_enter Tryz.func93, Tryz.ntmps93
    go_wp2_with (go_at_call 122; refine (HH.out _).mono ?_; rintro e w1 ⟨rfl, m, rfl⟩)
    go_ret
    rw [HN.out]
    exact ⟨_, rfl, own_below HO0.out (Below.drewN' (Below.refl _ _) _), Below.drewN' HB0.out _⟩
  · have hn1 := namN_some hh
    have hsz := (filmH_all hh).1
    have hfs := (filmH_all hh).2.1
    have HM := Lib.hid (fun j (hj : 1 ≤ j) => namN_more hh hj)
    have HS := Lib.hid (fun W => rsize16_any s W (by omega))
    rw [show sizI s = (fourB s 0 : Int) from if_pos (by omega)] at HS
    have HT0 := Lib.hid (show strs (namL s 1) = [.string (s.extract 8 12)] from rfl)
    have HP := Lib.hid (fun j (hj : j < namN s) => namP_end hj)
    rw [hh] at HH
    clear hh
    generalize fourB s 0 = n at *
    go_enter Tryz.func93, Tryz.ntmps93
    go_wp2_with fail
    refine (HH.out _).mono ?_
    rintro e w1 ⟨rfl, m, rfl⟩
    have HO1 := Lib.hid (own_below HO0.out (Below.drewN' (Below.refl _ _) m))
    have HB1 := Lib.hid (Below.drewN' HB0.out m)
    obtain ⟨x, hx⟩ : ∃ x, x = s.extract 8 12 := ⟨_, rfl⟩
    obtain ⟨w2, hw2⟩ : ∃ w2, w2 = (w.alloc (.cells #[] 9)).drewN m := ⟨_, rfl⟩
    rw [← hx] at HT0
    rw [← hw2] at HO1 HB1 ⊢
    clear hw2
    have hx' := hx.symm
    clear hx
    go_wp2_with (at_builtin; refine wpList_append_own _ rfl _ _ 45 rfl w.heap.size 9 i0 (.string ⟨#[]⟩) 1 16 Tryz.underlying45 hi hz0 hz1 hz2 rfl (by decide) _ _ _ rfl (HO1.out.alloc _) ⟨w2.heap.size, 0, none⟩ 1 1 [.string x] rfl rfl ?c1 ?c2 ?c3 ?c4 ?c5 ?_)
    case c1 =>
      intro j u hj
      match j, hj with
      | 0, hj => simp at hj; subst hj; simp [Addr.add]
    case c2 => intro u hu; simp at hu; subst hu; rfl
    case c3 => unfold maxLen; omega
    case c4 => omega
    case c5 => have := HB1.out.size; simp; omega
    intro v' w3 hown hgrow _
    have HO3 := Lib.hid (show w3.ownsRow w.heap.size 9 1 v' 1 (strs (namL s 1)) from by rw [HT0.out]; exact hown)
    have HB3 := Lib.hid (Below.grown (HB1.out.alloc HB1.out.size _) hgrow (by have := HB1.out.size; simp; omega) (fun g hg => (HO1.out.lt g hg).1))
    clear hown hgrow HO1 HB1 HT0 hx'
    go_wp2
    go_loopw [3, 4] (fun v i wr => ∃ k : Nat, 1 ≤ k ∧ k ≤ namN s ∧ i = .int .i64 ((12 + 4 * k : Nat) : Int) ∧ wr.ownsRow w.heap.size 9 1 v k (strs (namL s k)) ∧ Below w.heap.size w wr) (fun _ i _ => n + 16 - (intOf i).toNat)
    case atStart => exact ⟨1, by omega, hn1, rfl, HO3.out, HB3.out⟩
    case round =>
      obtain ⟨k, hk1, hk, rfl, hown, hb⟩ := hrel
      have HO := Lib.hid hown
      have HB := Lib.hid hb
      obtain ⟨ao, n', cap, rfl⟩ := own_slice hown
      clear hown hb HO3 HB3
      by_cases hlt : k < namN s
      · have hkn := (HM.out k hk1).1 hlt
        have hpe := HP.out k hlt
        have hpk : namP k = 12 + 4 * k := by unfold namP; rw [if_neg (by omega)]
        have HTK : Hid (namT s k = s.extract (12 + 4 * k) (12 + 4 * k + 4)) := by unfold namT; rw [hpk]; exact rfl
        have HST := Lib.hid (show strs (namL s (k + 1)) = strs (namL s k) ++ [.string (s.extract (12 + 4 * k) (12 + 4 * k + 4))] from by rw [namL, HTK.out]; simp [strs])
        rw [hpk] at hpe
        clear hpk HTK
        obtain ⟨q, hq⟩ : ∃ q, q = 12 + 4 * k := ⟨_, rfl⟩
        have HQ := Lib.hid hq
        rw [← hq] at hkn hpe HST ⊢
        have hq1 : q ≤ 140737488351232 := by omega
        clear hq
        obtain ⟨y, hy⟩ : ∃ y, s.extract q (q + 4) = y := ⟨_, rfl⟩
        rw [hy] at HST
        go_wp2_with fail
        refine (HS.out _).mono ?_
        rintro e w4 ⟨rfl, m4, rfl⟩
        have HO4 := Lib.hid (own_below HO.out (Below.drewN' (Below.refl _ _) m4))
        have HB4 := Lib.hid (Below.drewN' HB.out m4)
        generalize wr.drewN m4 = w4 at *
        go_wp2_with (at_builtin; refine wpList_append_own _ rfl _ _ 45 rfl w.heap.size 9 i0 (.string ⟨#[]⟩) 1 16 Tryz.underlying45 hi hz0 hz1 hz2 rfl (by decide) _ _ _ rfl (HO4.out.alloc _) ⟨w4.heap.size, 0, none⟩ 1 1 [.string y] rfl rfl ?d1 ?d2 ?d3 ?d4 ?d5 ?_)
        case d1 =>
          intro j u hj
          match j, hj with
          | 0, hj => simp at hj; subst hj; simp [Addr.add]
        case d2 => intro u hu; simp at hu; subst hu; rfl
        case d3 => unfold maxLen; omega
        case d4 => omega
        case d5 => have := HB4.out.size; simp; omega
        intro v' w5 hown hgrow _
        have HO5 := Lib.hid (show w5.ownsRow w.heap.size 9 1 v' (k + 1) (strs (namL s (k + 1))) from by rw [HST.out]; exact hown)
        have HB5 := Lib.hid (Below.grown (HB4.out.alloc HB4.out.size _) hgrow (by have := HB4.out.size; simp; omega) (fun g hg => (HO4.out.lt g hg).1))
        clear hown hgrow HO4 HB4 HO HB
        go_wp2
        go_roundw
        case rel => exact ⟨k + 1, by omega, by omega, by have := HQ.out; go_num, HO5.out, HB5.out⟩
        case measure => simp [intOf]; omega
      · obtain rfl : k = namN s := by omega
        have hkn : ¬(12 + 4 * namN s < n) := fun h => hlt ((HM.out _ hk1).2 h)
        obtain ⟨q, hq⟩ : ∃ q, q = 12 + 4 * namN s := ⟨_, rfl⟩
        rw [← hq] at hkn ⊢
        clear hq
        go_wp2_with fail
        refine (HS.out _).mono ?_
        rintro e w4 ⟨rfl, m4, rfl⟩
        go_wp2
        go_ret
        exact ⟨_, rfl, by rw [namL_len]; exact own_below HO.out (Below.drewN' (Below.refl _ _) _), Below.drewN' HB.out _⟩

end Go.Proofs.YtkdjjlfpaciohaaGreatDoor
namespace Go.Proofs.YtkdjjlfpaciohaaGreatDoor
open Go.RowKit

theorem mp4S_list : mp4S.toList = [109, 112, 52] := by kernel_rfl

set_option maxHeartbeats 2000000 in
theorem ris16_any (s : ByteArray) (w : World) (hs : s.size ≤ 1099511627776) :
    Calls Tryz.prog 66 #[.string s] w fun e w' => e = .returned (.bool (filmB s)) ∧ Below w.heap.size w w' := by
  have HR := Lib.hid (fun W => rbrands16_any s W hs)
  have hnn := namN_le s
  go_enter Tryz.func66, Tryz.ntmps66
  go_wp2_with fail
  refine (HR.out _).mono ?_
  rintro e w1 ⟨v, rfl, ho, hb⟩
  obtain ⟨A, c, rfl, htx, _⟩ := TxIn.of_own ho
  have HT := Lib.hid htx
  have HB := Lib.hid hb
  have HL := Lib.hid (namL_len s (namN s))
  have HA := Lib.hid (fun i h => namL_at s (namN s) i h)
  rw [HL.out]
  clear ho hb htx
  go_wp2
  go_loopw [4] (fun i wr => ∃ k : Nat, k ≤ namN s ∧ i = .int .i64 (k : Nat) ∧ filmA s k = false ∧ wr = w1) (fun i _ => namN s - (intOf i).toNat)
  case atStart => exact ⟨0, Nat.zero_le _, rfl, rfl, rfl⟩
  case round =>
    obtain ⟨k, hk, rfl, hf, rfl⟩ := hrel
    have HF := Lib.hid hf
    clear hf
    by_cases hlt : k < namN s
    · obtain ⟨g, rfl, hg, hc⟩ := HT.out k (by rw [HL.out]; exact hlt)
      rw [HA.out] at hc
      have hz := namT_size hlt
      have HS := Lib.hid (show filmA s (k + 1) = mp4B (namT s k) from by rw [filmA, HF.out, Bool.false_or])
      have HH := Lib.hid (fun e => filmB_here hlt e)
      have HM : Hid (mp4B (namT s k) = ((namT s k).extract 0 3).toList.beq [109, 112, 52]) := by unfold mp4B; rw [mp4S_list]; exact rfl
      generalize namT s k = x at *
      cases hb : ((x.extract 0 3).toList == [109, 112, 52])
      · have HM2 := Lib.hid (show mp4B x = false from HM.out.trans hb)
        clear HM
        go_wp2
        go_roundw
        case rel => exact ⟨k + 1, by omega, by go_num, by rw [HS.out, HM2.out], trivial⟩
        case measure => simp [intOf]; omega
      · have HM2 := Lib.hid (show mp4B x = true from HM.out.trans hb)
        clear HM
        go_wp2
        go_ret
        exact ⟨by rw [HH.out HM2.out]; rfl, HB.out⟩
    · obtain rfl : k = namN s := by omega
      go_wp2
      go_ret
      exact ⟨by unfold filmB; rw [HF.out]; rfl, HB.out⟩

end Go.Proofs.YtkdjjlfpaciohaaGreatDoor
namespace Go.Proofs.YtkdjjlfpaciohaaGreatDoor

/-- How many bytes a number has, by its first one. -/
def widB (b : UInt8) : Nat := if 128 ≤ b.toNat then 1 else if 64 ≤ b.toNat then 2 else if 32 ≤ b.toNat then 3 else if 16 ≤ b.toNat then 4 else if 8 ≤ b.toNat then 5 else if 4 ≤ b.toNat then 6 else if 2 ≤ b.toNat then 7 else 8
theorem widB_pos (b : UInt8) : 1 ≤ widB b := by unfold widB; split <;> (repeat' split) <;> omega
theorem widB_le (b : UInt8) : widB b ≤ 8 := by unfold widB; split <;> (repeat' split) <;> omega
/-- Whether a text begins with a sign. -/
def begS (s t : ByteArray) : Bool := decide (t.size ≤ s.size) && (s.extract 0 t.size).toList == t.toList
/-- Whether a sign stands behind any noughts, from a place on; f: how many places are looked at, at the most. -/
def padF (s t : ByteArray) : Nat → Nat → Bool
  | 0, _ => false
  | f + 1, i => begS (s.extract i s.size) t || (decide (i < s.size) && (s[i]! == 0 && padF s t f (i + 1)))
def padB (s t : ByteArray) : Bool := padF s t (s.size + 1) 0
def padA (s t : ByteArray) (i : Nat) : Bool := padF s t (s.size + 1 - i) i
theorem padA_here {s t : ByteArray} {i : Nat} (hi : i ≤ s.size) (h : begS (s.extract i s.size) t = true) : padA s t i = true := by
  unfold padA
  rw [show s.size + 1 - i = (s.size - i) + 1 from by omega, padF, h]
  rfl
theorem padA_end {s t : ByteArray} {i : Nat} (hi : i = s.size) (h : begS (s.extract i s.size) t = false) : padA s t i = false := by
  unfold padA
  rw [show s.size + 1 - i = (s.size - i) + 1 from by omega, padF, h, decide_eq_false (by omega : ¬i < s.size)]
  rfl
theorem padA_stop {s t : ByteArray} {i : Nat} (hi : i < s.size) (h : begS (s.extract i s.size) t = false) (h0 : s[i]! ≠ 0) : padA s t i = false := by
  unfold padA
  rw [show s.size + 1 - i = (s.size - i) + 1 from by omega, padF, h, beq_eq_false_iff_ne.2 h0]
  simp
theorem padA_next {s t : ByteArray} {i : Nat} (hi : i < s.size) (h : begS (s.extract i s.size) t = false) (h0 : s[i]! = 0) : padA s t i = padA s t (i + 1) := by
  unfold padA
  rw [show s.size + 1 - i = (s.size - i) + 1 from by omega, padF, h, h0, decide_eq_true hi, show s.size - i = s.size + 1 - (i + 1) from by omega]
  simp

abbrev elmS : ByteArray := ⟨#[66, 130]⟩
abbrev wbmS : ByteArray := ⟨#[119, 101, 98, 109]⟩
abbrev mrkS : ByteArray := ⟨#[26, 69, 223, 163]⟩
/-- Whether a film is told from a place on; f: how many steps are gone, at the most. -/
def filF (s : ByteArray) : Nat → Nat → Bool
  | 0, _ => false
  | f + 1, i =>
    if i < s.size ∧ i < 38 then
      (if begS (s.extract i s.size) elmS = true then
        (if i + 2 < s.size then
          (if i + 2 + widB s[i + 2]! + 4 < s.size then
            (if padB (s.extract (i + 2 + widB s[i + 2]!) s.size) wbmS = true then true else filF s f (i + 2 + widB s[i + 2]! + 1))
          else false)
        else false)
      else filF s f (i + 1))
    else false
def filA (s : ByteArray) (i : Nat) : Bool := filF s (38 - i) i
def filW (s : ByteArray) : Bool := begS s mrkS && filA s 4
theorem filF_more (s : ByteArray) : ∀ (f i : Nat), 38 ≤ f + i → filF s (f + 1) i = filF s f i
  | 0, i, h => by
    have hn : ¬(i < s.size ∧ i < 38) := by omega
    show (if i < s.size ∧ i < 38 then _ else false) = false
    rw [if_neg hn]
  | f + 1, i, h => by
    have e : ∀ g, filF s (g + 1) i = if i < s.size ∧ i < 38 then (if begS (s.extract i s.size) elmS = true then (if i + 2 < s.size then (if i + 2 + widB s[i + 2]! + 4 < s.size then (if padB (s.extract (i + 2 + widB s[i + 2]!) s.size) wbmS = true then true else filF s g (i + 2 + widB s[i + 2]! + 1)) else false) else false) else filF s g (i + 1)) else false := fun g => by rw [filF]
    rw [e (f + 1), e f, filF_more s f (i + 1) (by omega), filF_more s f (i + 2 + widB s[i + 2]! + 1) (by omega)]
theorem filF_any (s : ByteArray) (i : Nat) : ∀ (f g : Nat), 38 ≤ f + i → filF s (f + g) i = filF s f i
  | f, 0, _ => rfl
  | f, g + 1, h => by rw [← Nat.add_assoc, filF_more s (f + g) i (by omega), filF_any s i f g h]
theorem filA_f {s : ByteArray} {i f : Nat} (h : 38 ≤ f + i) : filF s f i = filA s i := by
  unfold filA
  by_cases hi : 38 ≤ i
  · have := filF_any s i 0 f (by omega)
    rw [Nat.zero_add] at this
    rw [this, show 38 - i = 0 from by omega]
  · have := filF_any s i (38 - i) (f - (38 - i)) (by omega)
    rwa [show 38 - i + (f - (38 - i)) = f from by omega] at this
theorem filA_step {s : ByteArray} {i : Nat} (h : i < s.size ∧ i < 38) : filA s i = if begS (s.extract i s.size) elmS = true then (if i + 2 < s.size then (if i + 2 + widB s[i + 2]! + 4 < s.size then (if padB (s.extract (i + 2 + widB s[i + 2]!) s.size) wbmS = true then true else filA s (i + 2 + widB s[i + 2]! + 1)) else false) else false) else filA s (i + 1) := by
  have e : filA s i = filF s ((37 - i) + 1) i := (filA_f (by omega)).symm
  rw [e, filF, if_pos h, filA_f (by omega), filA_f (by omega)]
theorem filA_over {s : ByteArray} {i : Nat} (h : ¬(i < s.size ∧ i < 38)) : filA s i = false := by
  rw [← filA_f (s := s) (i := i) (f := 38) (by omega), filF, if_neg h]

end Go.Proofs.YtkdjjlfpaciohaaGreatDoor

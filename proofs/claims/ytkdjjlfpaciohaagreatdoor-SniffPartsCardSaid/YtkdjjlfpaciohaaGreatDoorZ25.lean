/-
  Plain facts on films of elements: a sign behind noughts, the bit of a size, what is written. No condition.
  What TrimLeft and HasPrefix of strings, and LeadingZeros8 of math/bits, answer at this translation. Conditions: those that each names.
  What package webm's functions but Is answer. Condition: the texts are not longer than memory.
-/
import Derived.Test.YtkdjjlfpaciohaaGreatDoorZ24
import Derived.Test.YtkdjjlfpaciohaaGreatDoorZ1
import Derived.Lib.Strings
import Derived.Lib.TrimByte
import Derived.Lib.BitFns
import Derived.Laws.BitsAllLaws
import Derived.Shelf.Strings.Trim
import Derived.Shelf.Small.Bits
import Derived.Shelf.Strings.Prefix
import Derived.Test.YtkdjjlfpaciohaaGreatDoorRows
import Derived.WalkKit
import Derived.Test.YtkdjjlfpaciohaaGreatDoorZ8
import Derived.Laws.MakeOwn
import Derived.LoopTactic
import Derived.Test.YtkdjjlfpaciohaaGreatDoorZ20
import Derived.Lib.Hide
namespace Go.Proofs.YtkdjjlfpaciohaaGreatDoor

theorem begS_list (s t : ByteArray) : begS s t = Lib.hasPrefix s.data.toList t.data.toList := by
  rw [← Lib.hasPrefix_of_take]
  unfold begS
  rw [Lib.extract_toList, Lib.toList_data, Lib.size_eq s, Lib.size_eq t]
  simp

/-- Whether a sign stands behind any noughts, of lists. -/
def padL (t : List UInt8) : List UInt8 → Bool
  | [] => Lib.hasPrefix [] t
  | b :: l => Lib.hasPrefix (b :: l) t || (b == 0 && padL t l)
/-- How many noughts stand ahead. -/
def lzL (l : List UInt8) : Nat := l.length - (Lib.trimLeftB l 0).length
theorem lzL_nil : lzL [] = 0 := rfl
theorem trim_len (l : List UInt8) : (Lib.trimLeftB l 0).length ≤ l.length := (List.dropWhile_suffix (· == (0 : UInt8))).length_le
theorem trim_zero (l : List UInt8) : Lib.trimLeftB (0 :: l) 0 = Lib.trimLeftB l 0 := rfl
theorem trim_other {b : UInt8} (l : List UInt8) (h : b ≠ 0) : Lib.trimLeftB (b :: l) 0 = b :: l := by
  unfold Lib.trimLeftB
  rw [List.dropWhile_cons_of_neg]
  simpa using h
theorem lzL_zero (l : List UInt8) : lzL (0 :: l) = lzL l + 1 := by
  have := trim_len l
  unfold lzL
  rw [trim_zero, List.length_cons]
  omega
theorem lzL_other {b : UInt8} (l : List UInt8) (h : b ≠ 0) : lzL (b :: l) = 0 := by
  unfold lzL
  rw [trim_other l h]
  omega
theorem prefix_trim : ∀ (l t : List UInt8), Lib.hasPrefix l t = true → lzL t ≤ lzL l ∧ (lzL t = lzL l ∨ Lib.trimLeftB t 0 = []) ∧ Lib.hasPrefix (Lib.trimLeftB l 0) (Lib.trimLeftB t 0) = true
  | l, [], _ => by
    refine ⟨by rw [lzL_nil]; omega, .inr rfl, rfl⟩
  | [], b :: t, h => by cases h
  | a :: l, b :: t, h => by
    have h2 : (b == a) = true ∧ t.isPrefixOf l = true := by
      unfold Lib.hasPrefix at h
      rw [List.isPrefixOf] at h
      simpa using h
    have hab : b = a := beq_iff_eq.1 h2.1
    subst hab
    by_cases hz : b = 0
    · subst hz
      obtain ⟨h3, h4, h5⟩ := prefix_trim l t h2.2
      rw [lzL_zero, lzL_zero, trim_zero, trim_zero]
      exact ⟨by omega, h4.elim (fun e => .inl (by omega)) .inr, h5⟩
    · rw [lzL_other _ hz, lzL_other _ hz, trim_other _ hz, trim_other _ hz]
      exact ⟨Nat.le_refl _, .inl rfl, h⟩
theorem prefix_same : ∀ (l t : List UInt8), lzL t = lzL l → Lib.hasPrefix (Lib.trimLeftB l 0) (Lib.trimLeftB t 0) = true → Lib.hasPrefix l t = true
  | l, [], _, _ => by cases l <;> rfl
  | [], b :: t, h, h2 => by
    by_cases hz : b = 0
    · subst hz
      rw [lzL_zero, lzL_nil] at h
      omega
    · rw [trim_other _ hz] at h2
      cases h2
  | a :: l, b :: t, h, h2 => by
    by_cases hz : b = 0
    · subst hz
      by_cases ha : a = 0
      · subst ha
        rw [lzL_zero, lzL_zero] at h
        rw [trim_zero, trim_zero] at h2
        have := prefix_same l t (by omega) h2
        unfold Lib.hasPrefix at this ⊢
        rw [List.isPrefixOf, this]
        rfl
      · rw [lzL_zero, lzL_other _ ha] at h
        omega
    · by_cases ha : a = 0
      · subst ha
        rw [lzL_zero, lzL_other _ hz] at h
        omega
      · rwa [trim_other _ hz, trim_other _ ha] at h2
theorem padL_trim (t : List UInt8) : ∀ l, padL t l = (decide (lzL t ≤ lzL l) && Lib.hasPrefix (Lib.trimLeftB l 0) (Lib.trimLeftB t 0))
  | [] => by
    rw [padL, Bool.eq_iff_iff, Bool.and_eq_true, decide_eq_true_eq]
    constructor
    · intro h
      have := prefix_trim [] t h
      exact ⟨this.1, this.2.2⟩
    · rintro ⟨h1, h2⟩
      exact prefix_same [] t (by rw [lzL_nil] at h1 ⊢; omega) h2
  | b :: l => by
    rw [padL, padL_trim t l, Bool.eq_iff_iff, Bool.or_eq_true, Bool.and_eq_true, Bool.and_eq_true, Bool.and_eq_true, decide_eq_true_eq, decide_eq_true_eq, beq_iff_eq]
    constructor
    · rintro (h | ⟨rfl, h1, h2⟩)
      · have := prefix_trim _ t h
        exact ⟨this.1, this.2.2⟩
      · rw [lzL_zero, trim_zero]
        exact ⟨by omega, h2⟩
    · rintro ⟨h1, h2⟩
      by_cases hz : b = 0
      · subst hz
        rw [lzL_zero] at h1
        by_cases he : lzL t = lzL l + 1
        · exact .inl (prefix_same _ t (by rw [lzL_zero]; exact he) h2)
        · exact .inr ⟨rfl, by omega, h2⟩
      · rw [lzL_other _ hz] at h1
        exact .inl (prefix_same _ t (by rw [lzL_other _ hz]; omega) h2)
theorem drop_at {s : ByteArray} {i : Nat} (h : i < s.size) : s.data.toList.drop i = s[i]! :: s.data.toList.drop (i + 1) := by
  rw [List.drop_eq_getElem_cons (by simpa using h), getElem!_pos s i h]
  rfl
theorem rest_list (s : ByteArray) (i : Nat) : (s.extract i s.size).data.toList = s.data.toList.drop i := by
  rw [Lib.extract_data, List.take_of_length_le]
  rw [List.length_drop, Lib.size_eq s]
  omega
theorem padA_list (s t : ByteArray) : ∀ (n i : Nat), s.size = i + n → padA s t i = padL t.data.toList (s.data.toList.drop i)
  | 0, i, h => by
    have e : s.data.toList.drop i = [] := List.drop_eq_nil_of_le (by have := Lib.size_eq s; omega)
    rw [e, padL]
    have hb : begS (s.extract i s.size) t = Lib.hasPrefix [] t.data.toList := by rw [begS_list, rest_list, e]
    cases hc : Lib.hasPrefix [] t.data.toList
    · exact padA_end (by omega) (by rw [hb, hc])
    · exact padA_here (by omega) (by rw [hb, hc])
  | n + 1, i, h => by
    have hb : begS (s.extract i s.size) t = Lib.hasPrefix (s[i]! :: s.data.toList.drop (i + 1)) t.data.toList := by rw [begS_list, rest_list, drop_at (by omega)]
    have ih := padA_list s t n (i + 1) (by omega)
    rw [drop_at (by omega), padL, ← hb, ← ih]
    cases hc : begS (s.extract i s.size) t
    · rw [Bool.false_or]
      by_cases h0 : s[i]! = 0
      · rw [padA_next (by omega) hc h0, h0]
        rfl
      · rw [padA_stop (by omega) hc h0, beq_eq_false_iff_ne.2 h0]
        rfl
    · rw [padA_here (by omega) hc]
      rfl
theorem padB_list (s t : ByteArray) : padB s t = (decide (lzL t.data.toList ≤ lzL s.data.toList) && Lib.hasPrefix (Lib.trimLeftB s.data.toList 0) (Lib.trimLeftB t.data.toList 0)) := by
  have := padA_list s t s.size 0 (by omega)
  rw [List.drop_zero, padL_trim] at this
  rw [← this]
  rfl
theorem widB_bits (b : UInt8) : (widB b : Int) = if (1 + (8 - (Lib.bitLen b.toNat : Int))) ≤ 8 then 1 + (8 - (Lib.bitLen b.toNat : Int)) else 8 := by
  have := bytes_all (p := fun b => (widB b : Int) == if (1 + (8 - (Lib.bitLen b.toNat : Int))) ≤ 8 then 1 + (8 - (Lib.bitLen b.toNat : Int)) else 8) (by kernel_rfl) b
  exact beq_iff_eq.1 this

end Go.Proofs.YtkdjjlfpaciohaaGreatDoor
namespace Go.Proofs.YtkdjjlfpaciohaaGreatDoor
open Go.RowKit Go.Shelf

def lays161_ren : Go.Shelf.Ren := ⟨fun | 161 => 139 | 231 => 156 | 227 => 157 | 233 => 158 | 235 => 159 | 228 => 168 | 197 => 169 | 151 => 170 | 260 => 179 | 152 => 180 | 137 => 107 | 119 => 184 | 224 => 185 | 225 => 186 | 217 => 134 | 266 => 151 | n => n, fun | 9 => 9 | 4 => 4 | 3 => 3 | 5 => 5 | 117 => 125 | 116 => 124 | 0 => 0 | 124 => 128 | 105 => 140 | 21 => 21 | 119 => 153 | 46 => 83 | 139 => 156 | 138 => 155 | n => n, fun | 3 => 1 | 4 => 2 | n => n⟩

theorem lays161 : Go.Proofs.Lays.n161 Tryz.prog lays161_ren := {
  mixed := by kernel_rfl
  f119 := Tryz.func184.trans (congrArg some (by kernel_rfl))
  f137 := Tryz.func107.trans (congrArg some (by kernel_rfl))
  f151 := Tryz.func170.trans (congrArg some (by kernel_rfl))
  f152 := Tryz.func180.trans (congrArg some (by kernel_rfl))
  f161 := Tryz.func139.trans (congrArg some (by kernel_rfl))
  f197 := Tryz.func169.trans (congrArg some (by kernel_rfl))
  f217 := Tryz.func134.trans (congrArg some (by kernel_rfl))
  f224 := Tryz.func185.trans (congrArg some (by kernel_rfl))
  f225 := Tryz.func186.trans (congrArg some (by kernel_rfl))
  f227 := Tryz.func157.trans (congrArg some (by kernel_rfl))
  f228 := Tryz.func168.trans (congrArg some (by kernel_rfl))
  f231 := Tryz.func156.trans (congrArg some (by kernel_rfl))
  f233 := Tryz.func158.trans (congrArg some (by kernel_rfl))
  f235 := Tryz.func159.trans (congrArg some (by kernel_rfl))
  f260 := Tryz.func179.trans (congrArg some (by kernel_rfl))
  f266 := Tryz.func151.trans (congrArg some (by kernel_rfl))
  t0 := Tryz.underlying0
  a0 := Tryz.isAgg0
  z0 := Tryz.sizeOf0
  v0 := Tryz.zeroValue0
  t3 := Tryz.underlying3
  a3 := Tryz.isAgg3
  z3 := Tryz.sizeOf3
  v3 := Tryz.zeroValue3
  t4 := Tryz.underlying4
  a4 := Tryz.isAgg4
  z4 := Tryz.sizeOf4
  v4 := Tryz.zeroValue4
  t5 := Tryz.underlying5
  a5 := Tryz.isAgg5
  z5 := Tryz.sizeOf5
  v5 := Tryz.zeroValue5
  t9 := Tryz.underlying9
  a9 := Tryz.isAgg9
  z9 := Tryz.sizeOf9
  v9 := Tryz.zeroValue9
  t21 := Tryz.underlying21
  a21 := Tryz.isAgg21
  z21 := Tryz.sizeOf21
  v21 := Tryz.zeroValue21
  t46 := Tryz.underlying83
  a46 := Tryz.isAgg83
  z46 := Tryz.sizeOf83
  v46 := Tryz.zeroValue83
  t105 := Tryz.underlying140
  a105 := Tryz.isAgg140
  z105 := Tryz.sizeOf140
  v105 := Tryz.zeroValue140
  t116 := Tryz.underlying124
  a116 := Tryz.isAgg124
  z116 := Tryz.sizeOf124
  t117 := Tryz.underlying125
  a117 := Tryz.isAgg125
  z117 := Tryz.sizeOf125
  v117 := Tryz.zeroValue125
  t119 := Tryz.underlying153
  a119 := Tryz.isAgg153
  z119 := Tryz.sizeOf153
  t124 := Tryz.underlying128
  a124 := Tryz.isAgg128
  z124 := Tryz.sizeOf128
  v124 := Tryz.zeroValue128
  t138 := Tryz.underlying155
  a138 := Tryz.isAgg155
  z138 := Tryz.sizeOf155
  v138 := Tryz.zeroValue155
  t139 := Tryz.underlying156
  a139 := Tryz.isAgg156
  z139 := Tryz.sizeOf156
  v139 := Tryz.zeroValue156
  g3 := by kernel_rfl
  g4 := by kernel_rfl }

open Go.RowKit in
theorem strings_TrimLeft_one (s : ByteArray) (c : UInt8) (hc : c.toNat < 128) (w : World) :
    Calls Tryz.prog 139 #[.string s, .string ⟨#[c]⟩] w fun e w' => e = .returned (.string ⟨(Lib.trimLeftB s.data.toList c).toArray⟩) ∧ w' = w := Any.strings_TrimLeft_one lays161 s c hc w

def lays99_ren : Go.Shelf.Ren := ⟨fun | 99 => 80 | 206 => 108 | n => n, fun | 9 => 9 | 4 => 4 | 3 => 3 | n => n, fun | n => n⟩

theorem lays99 : Go.Proofs.Lays.n99 Tryz.prog lays99_ren := {
  mixed := by kernel_rfl
  f99 := Tryz.func80.trans (congrArg some (by kernel_rfl))
  f206 := Tryz.func108.trans (congrArg some (by kernel_rfl))
  t3 := Tryz.underlying3
  a3 := Tryz.isAgg3
  z3 := Tryz.sizeOf3
  v3 := Tryz.zeroValue3
  t4 := Tryz.underlying4
  a4 := Tryz.isAgg4
  z4 := Tryz.sizeOf4
  v4 := Tryz.zeroValue4
  t9 := Tryz.underlying9
  a9 := Tryz.isAgg9
  z9 := Tryz.sizeOf9
  v9 := Tryz.zeroValue9 }

open Go.RowKit Go.Lib in
theorem strings_HasPrefix (s p : ByteArray) (w : World) :
    Calls Tryz.prog 80 #[.string s, .string p] w fun e w' => e = .returned (.bool (Lib.hasPrefix s.data.toList p.data.toList)) ∧ w' = w := Any.strings_HasPrefix lays99 s p w
def lays131_ren : Go.Shelf.Ren := ⟨fun | 131 => 117 | 126 => 138 | n => n, fun | 5 => 5 | 3 => 3 | 9 => 9 | n => n, fun | n => n⟩

theorem lays131 : Go.Proofs.Lays.n131 Tryz.prog lays131_ren := {
  mixed := by kernel_rfl
  f126 := Tryz.func138.trans (congrArg some (by kernel_rfl))
  f131 := Tryz.func117.trans (congrArg some (by kernel_rfl))
  t3 := Tryz.underlying3
  a3 := Tryz.isAgg3
  z3 := Tryz.sizeOf3
  v3 := Tryz.zeroValue3
  t5 := Tryz.underlying5
  a5 := Tryz.isAgg5
  z5 := Tryz.sizeOf5
  v5 := Tryz.zeroValue5
  t9 := Tryz.underlying9
  a9 := Tryz.isAgg9
  z9 := Tryz.sizeOf9
  v9 := Tryz.zeroValue9 }

theorem bits_LeadingZeros8 (x : Int) (w : World) (h0 : 0 ≤ x) (h1 : x ≤ 255) :
    Calls Tryz.prog 117 #[.int .u8 x] w fun e w' => e = .returned (.int .i64 (8 - (Lib.bitLen x.toNat : Int))) ∧ w' = w := Any.bits_LeadingZeros8 lays131 x w h0 h1

end Go.Proofs.YtkdjjlfpaciohaaGreatDoor
namespace Go.Proofs.YtkdjjlfpaciohaaGreatDoor
open Go.RowKit

set_option maxHeartbeats 400000 in
theorem width_any (b : UInt8) (w : World) :
    Calls Tryz.prog 89 #[.int .u8 (b.toNat : Int)] w fun e w' => e = .returned (.int .i64 (widB b : Nat)) ∧ w = w' := by
  have hb := b.toNat_lt
  have HL := Lib.hid (fun W => bits_LeadingZeros8 (b.toNat : Int) W (by omega) (by omega))
  have hz : ((b.toNat : Int)).toNat = b.toNat := rfl
  rw [hz] at HL
  have HW := Lib.hid (widB_bits b)
  have hl : Lib.bitLen b.toNat ≤ 8 := by
    have := bytes_all (p := fun b => decide (Lib.bitLen b.toNat ≤ 8)) (by kernel_rfl) b
    simpa using this
  generalize Lib.bitLen b.toNat = l at *
  by_cases h0 : l = 0
  · subst h0
    rw [HW.out]
    go_enter Tryz.func89, Tryz.ntmps89
    go_wp2_with (go_at_call 117; (with_reducible refine (HL.out _).mono ?_); rintro e w1 ⟨rfl, rfl⟩)
    go_ret
    exact ⟨rfl, rfl⟩
  · have h1 : (1 + (8 - (l : Int))) ≤ 8 := by omega
    rw [HW.out, if_pos h1]
    go_enter Tryz.func89, Tryz.ntmps89
    go_wp2_with (go_at_call 117; (with_reducible refine (HL.out _).mono ?_); rintro e w1 ⟨rfl, rfl⟩)
    go_ret
    exact ⟨congrArg (fun n => Ending.returned (.int .i64 n)) (Int.min_eq_left h1), rfl⟩

set_option maxHeartbeats 400000 in
theorem unpadded_any (s : ByteArray) (w : World) :
    Calls Tryz.prog 118 #[.string s] w fun e w' => e = .returned (.string ⟨(Lib.trimLeftB s.data.toList 0).toArray⟩) ∧ w = w' := by
  have HL := Lib.hid (fun W => strings_TrimLeft_one s 0 (by decide) W)
  generalize (⟨(Lib.trimLeftB s.data.toList 0).toArray⟩ : ByteArray) = x at *
  go_enter Tryz.func118, Tryz.ntmps118
  go_wp2_with (go_at_call 139; (with_reducible refine (HL.out _).mono ?_); rintro e w1 ⟨rfl, rfl⟩)
  go_ret
  exact ⟨rfl, rfl⟩

theorem hasPrefix_beg (s t : ByteArray) (w : World) : Calls Tryz.prog 80 #[.string s, .string t] w fun e w' => e = .returned (.bool (begS s t)) ∧ w = w' :=
  (strings_HasPrefix s t w).mono fun _ _ ⟨h1, h2⟩ => ⟨by rw [h1, begS_list], h2.symm⟩
theorem trim_size (s : ByteArray) : (⟨(Lib.trimLeftB s.data.toList 0).toArray⟩ : ByteArray).size + lzL s.data.toList = s.size := by
  have h := trim_len s.data.toList
  have e : (⟨(Lib.trimLeftB s.data.toList 0).toArray⟩ : ByteArray).size = (Lib.trimLeftB s.data.toList 0).length := by
    show ((Lib.trimLeftB s.data.toList 0).toArray).size = _
    simp
  rw [e, Lib.size_eq s]
  unfold lzL
  omega

set_option maxHeartbeats 1000000 in
theorem padded_any (s t : ByteArray) (w : World) (hs : s.size ≤ 9223372036854775807) (ht : t.size ≤ 9223372036854775807) :
    Calls Tryz.prog 90 #[.string s, .string t] w fun e w' => e = .returned (.bool (padB s t)) ∧ w = w' := by
  have HS := Lib.hid (fun W => unpadded_any s W)
  have HT := Lib.hid (fun W => unpadded_any t W)
  have hz := trim_size s
  have hy := trim_size t
  have HP := Lib.hid (padB_list s t)
  have HB := Lib.hid (begS_list ⟨(Lib.trimLeftB s.data.toList 0).toArray⟩ ⟨(Lib.trimLeftB t.data.toList 0).toArray⟩)
  rw [show (⟨(Lib.trimLeftB s.data.toList 0).toArray⟩ : ByteArray).data.toList = Lib.trimLeftB s.data.toList 0 from by simp, show (⟨(Lib.trimLeftB t.data.toList 0).toArray⟩ : ByteArray).data.toList = Lib.trimLeftB t.data.toList 0 from by simp] at HB
  have HPP := Lib.hid (HP.out.trans (congrArg (fun q => (decide (lzL t.data.toList ≤ lzL s.data.toList) && q)) HB.out.symm))
  clear HP HB
  have HC := Lib.hid (fun W => hasPrefix_beg ⟨(Lib.trimLeftB s.data.toList 0).toArray⟩ ⟨(Lib.trimLeftB t.data.toList 0).toArray⟩ W)
  generalize (⟨(Lib.trimLeftB s.data.toList 0).toArray⟩ : ByteArray) = x at *
  generalize (⟨(Lib.trimLeftB t.data.toList 0).toArray⟩ : ByteArray) = y at *
  generalize lzL s.data.toList = a at *
  generalize lzL t.data.toList = b at *
  generalize begS x y = q at *
  rw [HPP.out]
  clear HPP
  have hx : x.size ≤ s.size := by omega
  have hyy : y.size ≤ t.size := by omega
  have hsa : (s.size : Int) - x.size = a := by omega
  have htb : (t.size : Int) - y.size = b := by omega
  clear hz hy
  by_cases hab : b ≤ a
  · rw [decide_eq_true hab]
    go_enter Tryz.func90, Tryz.ntmps90
    go_wp2_with (first
      | (go_at_call 118; (first | with_reducible refine (HS.out _).mono ?_ | with_reducible refine (HT.out _).mono ?_); rintro e w1 ⟨rfl, rfl⟩)
      | (go_at_call 80; (with_reducible refine (HC.out _).mono ?_); rintro e w1 ⟨rfl, rfl⟩))
    go_ret
    exact ⟨by simp, rfl⟩
  · rw [decide_eq_false hab]
    go_enter Tryz.func90, Tryz.ntmps90
    go_wp2_with (first
      | (go_at_call 118; (first | with_reducible refine (HS.out _).mono ?_ | with_reducible refine (HT.out _).mono ?_); rintro e w1 ⟨rfl, rfl⟩)
      | (go_at_call 80; (with_reducible refine (HC.out _).mono ?_); rintro e w1 ⟨rfl, rfl⟩))
    go_ret
    exact ⟨by simp, rfl⟩

theorem mark_any (s : ByteArray) (w : World) :
    Calls Tryz.prog 88 #[.string s] w fun e w' => e = .returned (.bool (begS s mrkS)) ∧ w = w' := by
  have HC := Lib.hid (fun W => hasPrefix_beg s mrkS W)
  generalize begS s mrkS = q at *
  go_enter Tryz.func88, Tryz.ntmps88
  go_wp2_with (go_at_call 80; (with_reducible refine (HC.out _).mono ?_); rintro e w1 ⟨rfl, rfl⟩)
  go_ret
  exact ⟨rfl, rfl⟩

end Go.Proofs.YtkdjjlfpaciohaaGreatDoor

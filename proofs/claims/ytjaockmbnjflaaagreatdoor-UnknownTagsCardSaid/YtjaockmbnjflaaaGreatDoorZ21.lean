/-
  Plain facts on films of elements: how many bytes a number has, which number it is, what is written. No condition.
  Plain facts on films of elements: a sign behind noughts, the bit of a size, what is written. No condition.
  What TrimLeft and HasPrefix of strings, and LeadingZeros8 of math/bits, answer at this translation. Conditions: those that each names.
-/
import Derived.Test.YtjaockmbnjflaaaGreatDoorZ13
import Derived.Test.YtjaockmbnjflaaaGreatDoorZ3
import Derived.Test.YtjaockmbnjflaaaGreatDoorZ1
import Derived.Test.YtjaockmbnjflaaaGreatDoorZ16
import Derived.BigQuiet
import Derived.Deep.QuietTactic
import Derived.OwnWalk
import Derived.LoopTactic
import Derived.WalkKit
import Derived.Lib.Hide
import Derived.Lib.Strings
import Derived.Lib.TrimByte
import Derived.Lib.BitFns
import Derived.Laws.BitsAllLaws
import Derived.Shelf.Strings.Trim
import Derived.Shelf.Small.Bits
import Derived.Shelf.Strings.Prefix
import Derived.Test.YtjaockmbnjflaaaGreatDoorRows
namespace Go.Proofs.YtjaockmbnjflaaaGreatDoor

/-- How many bytes a number has, by its first one. -/
def widB (b : UInt8) : Nat := if 128 ≤ b.toNat then 1 else if 64 ≤ b.toNat then 2 else if 32 ≤ b.toNat then 3 else if 16 ≤ b.toNat then 4 else if 8 ≤ b.toNat then 5 else if 4 ≤ b.toNat then 6 else if 2 ≤ b.toNat then 7 else 8
theorem widB_pos (b : UInt8) : 1 ≤ widB b := by unfold widB; split <;> (repeat' split) <;> omega
theorem widB_le (b : UInt8) : widB b ≤ 8 := by unfold widB; split <;> (repeat' split) <;> omega
/-- Whether a text begins with a sign. -/
def begS (s t : ByteArray) : Bool := decide (t.size ≤ s.size) && (s.extract 0 t.size).toList == t.toList
/-- Whether a sign stands behind any noughts, from a place on; f: how many places are looked at, at the most. -/
def padF (s t : ByteArray) : Nat → Nat → Bool
  | 0, _ => false
  | f + 1, i => begS (s.extract i s.size) t || (decide (i < s.size) && (s[i]! == 0 && padF s t f (i + 1)))
def padB (s t : ByteArray) : Bool := padF s t (s.size + 1) 0
def padA (s t : ByteArray) (i : Nat) : Bool := padF s t (s.size + 1 - i) i
theorem padA_here {s t : ByteArray} {i : Nat} (hi : i ≤ s.size) (h : begS (s.extract i s.size) t = true) : padA s t i = true := by
  unfold padA
  rw [show s.size + 1 - i = (s.size - i) + 1 from by omega, padF, h]
  rfl
theorem padA_end {s t : ByteArray} {i : Nat} (hi : i = s.size) (h : begS (s.extract i s.size) t = false) : padA s t i = false := by
  unfold padA
  rw [show s.size + 1 - i = (s.size - i) + 1 from by omega, padF, h, decide_eq_false (by omega : ¬i < s.size)]
  rfl
theorem padA_stop {s t : ByteArray} {i : Nat} (hi : i < s.size) (h : begS (s.extract i s.size) t = false) (h0 : s[i]! ≠ 0) : padA s t i = false := by
  unfold padA
  rw [show s.size + 1 - i = (s.size - i) + 1 from by omega, padF, h, beq_eq_false_iff_ne.2 h0]
  simp
theorem padA_next {s t : ByteArray} {i : Nat} (hi : i < s.size) (h : begS (s.extract i s.size) t = false) (h0 : s[i]! = 0) : padA s t i = padA s t (i + 1) := by
  unfold padA
  rw [show s.size + 1 - i = (s.size - i) + 1 from by omega, padF, h, h0, decide_eq_true hi, show s.size - i = s.size + 1 - (i + 1) from by omega]
  simp

abbrev elmS : ByteArray := ⟨#[66, 130]⟩
abbrev wbmS : ByteArray := ⟨#[119, 101, 98, 109]⟩
abbrev mrkS : ByteArray := ⟨#[26, 69, 223, 163]⟩
/-- Whether a film is told from a place on; f: how many steps are gone, at the most. -/
def filF (s : ByteArray) : Nat → Nat → Bool
  | 0, _ => false
  | f + 1, i =>
    if i < s.size ∧ i < 38 then
      (if begS (s.extract i s.size) elmS = true then
        (if i + 2 < s.size then
          (if i + 2 + widB s[i + 2]! + 4 < s.size then
            (if padB (s.extract (i + 2 + widB s[i + 2]!) s.size) wbmS = true then true else filF s f (i + 2 + widB s[i + 2]! + 1))
          else false)
        else false)
      else filF s f (i + 1))
    else false
def filA (s : ByteArray) (i : Nat) : Bool := filF s (38 - i) i
def filW (s : ByteArray) : Bool := begS s mrkS && filA s 4
theorem filF_more (s : ByteArray) : ∀ (f i : Nat), 38 ≤ f + i → filF s (f + 1) i = filF s f i
  | 0, i, h => by
    have hn : ¬(i < s.size ∧ i < 38) := by omega
    show (if i < s.size ∧ i < 38 then _ else false) = false
    rw [if_neg hn]
  | f + 1, i, h => by
    have e : ∀ g, filF s (g + 1) i = if i < s.size ∧ i < 38 then (if begS (s.extract i s.size) elmS = true then (if i + 2 < s.size then (if i + 2 + widB s[i + 2]! + 4 < s.size then (if padB (s.extract (i + 2 + widB s[i + 2]!) s.size) wbmS = true then true else filF s g (i + 2 + widB s[i + 2]! + 1)) else false) else false) else filF s g (i + 1)) else false := fun g => by rw [filF]
    rw [e (f + 1), e f, filF_more s f (i + 1) (by omega), filF_more s f (i + 2 + widB s[i + 2]! + 1) (by omega)]
theorem filF_any (s : ByteArray) (i : Nat) : ∀ (f g : Nat), 38 ≤ f + i → filF s (f + g) i = filF s f i
  | f, 0, _ => rfl
  | f, g + 1, h => by rw [← Nat.add_assoc, filF_more s (f + g) i (by omega), filF_any s i f g h]
theorem filA_f {s : ByteArray} {i f : Nat} (h : 38 ≤ f + i) : filF s f i = filA s i := by
  unfold filA
  by_cases hi : 38 ≤ i
  · have := filF_any s i 0 f (by omega)
    rw [Nat.zero_add] at this
    rw [this, show 38 - i = 0 from by omega]
  · have := filF_any s i (38 - i) (f - (38 - i)) (by omega)
    rwa [show 38 - i + (f - (38 - i)) = f from by omega] at this
theorem filA_step {s : ByteArray} {i : Nat} (h : i < s.size ∧ i < 38) : filA s i = if begS (s.extract i s.size) elmS = true then (if i + 2 < s.size then (if i + 2 + widB s[i + 2]! + 4 < s.size then (if padB (s.extract (i + 2 + widB s[i + 2]!) s.size) wbmS = true then true else filA s (i + 2 + widB s[i + 2]! + 1)) else false) else false) else filA s (i + 1) := by
  have e : filA s i = filF s ((37 - i) + 1) i := (filA_f (by omega)).symm
  rw [e, filF, if_pos h, filA_f (by omega), filA_f (by omega)]
theorem filA_over {s : ByteArray} {i : Nat} (h : ¬(i < s.size ∧ i < 38)) : filA s i = false := by
  rw [← filA_f (s := s) (i := i) (f := 38) (by omega), filF, if_neg h]

end Go.Proofs.YtjaockmbnjflaaaGreatDoor
namespace Go.Proofs.YtjaockmbnjflaaaGreatDoor

theorem begS_list (s t : ByteArray) : begS s t = Lib.hasPrefix s.data.toList t.data.toList := by
  rw [← Lib.hasPrefix_of_take]
  unfold begS
  rw [Lib.extract_toList, Lib.toList_data, Lib.size_eq s, Lib.size_eq t]
  simp

/-- Whether a sign stands behind any noughts, of lists. -/
def padL (t : List UInt8) : List UInt8 → Bool
  | [] => Lib.hasPrefix [] t
  | b :: l => Lib.hasPrefix (b :: l) t || (b == 0 && padL t l)
/-- How many noughts stand ahead. -/
def lzL (l : List UInt8) : Nat := l.length - (Lib.trimLeftB l 0).length
theorem lzL_nil : lzL [] = 0 := rfl
theorem trim_len (l : List UInt8) : (Lib.trimLeftB l 0).length ≤ l.length := (List.dropWhile_suffix (· == (0 : UInt8))).length_le
theorem trim_zero (l : List UInt8) : Lib.trimLeftB (0 :: l) 0 = Lib.trimLeftB l 0 := rfl
theorem trim_other {b : UInt8} (l : List UInt8) (h : b ≠ 0) : Lib.trimLeftB (b :: l) 0 = b :: l := by
  unfold Lib.trimLeftB
  rw [List.dropWhile_cons_of_neg]
  simpa using h
theorem lzL_zero (l : List UInt8) : lzL (0 :: l) = lzL l + 1 := by
  have := trim_len l
  unfold lzL
  rw [trim_zero, List.length_cons]
  omega
theorem lzL_other {b : UInt8} (l : List UInt8) (h : b ≠ 0) : lzL (b :: l) = 0 := by
  unfold lzL
  rw [trim_other l h]
  omega
theorem prefix_trim : ∀ (l t : List UInt8), Lib.hasPrefix l t = true → lzL t ≤ lzL l ∧ (lzL t = lzL l ∨ Lib.trimLeftB t 0 = []) ∧ Lib.hasPrefix (Lib.trimLeftB l 0) (Lib.trimLeftB t 0) = true
  | l, [], _ => by
    refine ⟨by rw [lzL_nil]; omega, .inr rfl, rfl⟩
  | [], b :: t, h => by cases h
  | a :: l, b :: t, h => by
    have h2 : (b == a) = true ∧ t.isPrefixOf l = true := by
      unfold Lib.hasPrefix at h
      rw [List.isPrefixOf] at h
      simpa using h
    have hab : b = a := beq_iff_eq.1 h2.1
    subst hab
    by_cases hz : b = 0
    · subst hz
      obtain ⟨h3, h4, h5⟩ := prefix_trim l t h2.2
      rw [lzL_zero, lzL_zero, trim_zero, trim_zero]
      exact ⟨by omega, h4.elim (fun e => .inl (by omega)) .inr, h5⟩
    · rw [lzL_other _ hz, lzL_other _ hz, trim_other _ hz, trim_other _ hz]
      exact ⟨Nat.le_refl _, .inl rfl, h⟩
theorem prefix_same : ∀ (l t : List UInt8), lzL t = lzL l → Lib.hasPrefix (Lib.trimLeftB l 0) (Lib.trimLeftB t 0) = true → Lib.hasPrefix l t = true
  | l, [], _, _ => by cases l <;> rfl
  | [], b :: t, h, h2 => by
    by_cases hz : b = 0
    · subst hz
      rw [lzL_zero, lzL_nil] at h
      omega
    · rw [trim_other _ hz] at h2
      cases h2
  | a :: l, b :: t, h, h2 => by
    by_cases hz : b = 0
    · subst hz
      by_cases ha : a = 0
      · subst ha
        rw [lzL_zero, lzL_zero] at h
        rw [trim_zero, trim_zero] at h2
        have := prefix_same l t (by omega) h2
        unfold Lib.hasPrefix at this ⊢
        rw [List.isPrefixOf, this]
        rfl
      · rw [lzL_zero, lzL_other _ ha] at h
        omega
    · by_cases ha : a = 0
      · subst ha
        rw [lzL_zero, lzL_other _ hz] at h
        omega
      · rwa [trim_other _ hz, trim_other _ ha] at h2
theorem padL_trim (t : List UInt8) : ∀ l, padL t l = (decide (lzL t ≤ lzL l) && Lib.hasPrefix (Lib.trimLeftB l 0) (Lib.trimLeftB t 0))
  | [] => by
    rw [padL, Bool.eq_iff_iff, Bool.and_eq_true, decide_eq_true_eq]
    constructor
    · intro h
      have := prefix_trim [] t h
      exact ⟨this.1, this.2.2⟩
    · rintro ⟨h1, h2⟩
      exact prefix_same [] t (by rw [lzL_nil] at h1 ⊢; omega) h2
  | b :: l => by
    rw [padL, padL_trim t l, Bool.eq_iff_iff, Bool.or_eq_true, Bool.and_eq_true, Bool.and_eq_true, Bool.and_eq_true, decide_eq_true_eq, decide_eq_true_eq, beq_iff_eq]
    constructor
    · rintro (h | ⟨rfl, h1, h2⟩)
      · have := prefix_trim _ t h
        exact ⟨this.1, this.2.2⟩
      · rw [lzL_zero, trim_zero]
        exact ⟨by omega, h2⟩
    · rintro ⟨h1, h2⟩
      by_cases hz : b = 0
      · subst hz
        rw [lzL_zero] at h1
        by_cases he : lzL t = lzL l + 1
        · exact .inl (prefix_same _ t (by rw [lzL_zero]; exact he) h2)
        · exact .inr ⟨rfl, by omega, h2⟩
      · rw [lzL_other _ hz] at h1
        exact .inl (prefix_same _ t (by rw [lzL_other _ hz]; omega) h2)
theorem drop_at {s : ByteArray} {i : Nat} (h : i < s.size) : s.data.toList.drop i = s[i]! :: s.data.toList.drop (i + 1) := by
  rw [List.drop_eq_getElem_cons (by simpa using h), getElem!_pos s i h]
  rfl
theorem rest_list (s : ByteArray) (i : Nat) : (s.extract i s.size).data.toList = s.data.toList.drop i := by
  rw [Lib.extract_data, List.take_of_length_le]
  rw [List.length_drop, Lib.size_eq s]
  omega
theorem padA_list (s t : ByteArray) : ∀ (n i : Nat), s.size = i + n → padA s t i = padL t.data.toList (s.data.toList.drop i)
  | 0, i, h => by
    have e : s.data.toList.drop i = [] := List.drop_eq_nil_of_le (by have := Lib.size_eq s; omega)
    rw [e, padL]
    have hb : begS (s.extract i s.size) t = Lib.hasPrefix [] t.data.toList := by rw [begS_list, rest_list, e]
    cases hc : Lib.hasPrefix [] t.data.toList
    · exact padA_end (by omega) (by rw [hb, hc])
    · exact padA_here (by omega) (by rw [hb, hc])
  | n + 1, i, h => by
    have hb : begS (s.extract i s.size) t = Lib.hasPrefix (s[i]! :: s.data.toList.drop (i + 1)) t.data.toList := by rw [begS_list, rest_list, drop_at (by omega)]
    have ih := padA_list s t n (i + 1) (by omega)
    rw [drop_at (by omega), padL, ← hb, ← ih]
    cases hc : begS (s.extract i s.size) t
    · rw [Bool.false_or]
      by_cases h0 : s[i]! = 0
      · rw [padA_next (by omega) hc h0, h0]
        rfl
      · rw [padA_stop (by omega) hc h0, beq_eq_false_iff_ne.2 h0]
        rfl
    · rw [padA_here (by omega) hc]
      rfl
theorem padB_list (s t : ByteArray) : padB s t = (decide (lzL t.data.toList ≤ lzL s.data.toList) && Lib.hasPrefix (Lib.trimLeftB s.data.toList 0) (Lib.trimLeftB t.data.toList 0)) := by
  have := padA_list s t s.size 0 (by omega)
  rw [List.drop_zero, padL_trim] at this
  rw [← this]
  rfl
theorem widB_bits (b : UInt8) : (widB b : Int) = if (1 + (8 - (Lib.bitLen b.toNat : Int))) ≤ 8 then 1 + (8 - (Lib.bitLen b.toNat : Int)) else 8 := by
  have := bytes_all (p := fun b => (widB b : Int) == if (1 + (8 - (Lib.bitLen b.toNat : Int))) ≤ 8 then 1 + (8 - (Lib.bitLen b.toNat : Int)) else 8) (by kernel_rfl) b
  exact beq_iff_eq.1 this

end Go.Proofs.YtjaockmbnjflaaaGreatDoor
namespace Go.Proofs.YtjaockmbnjflaaaGreatDoor
open Go.RowKit Go.Shelf

def lays161_ren : Go.Shelf.Ren := ⟨fun | 161 => 116 | 231 => 132 | 227 => 133 | 233 => 134 | 235 => 135 | 228 => 142 | 197 => 143 | 151 => 144 | 260 => 151 | 152 => 152 | 137 => 110 | 119 => 156 | 224 => 157 | 225 => 158 | 217 => 125 | 266 => 139 | n => n, fun | 9 => 9 | 4 => 4 | 3 => 3 | 5 => 5 | 117 => 118 | 116 => 117 | 0 => 0 | 124 => 121 | 105 => 131 | 21 => 21 | 119 => 141 | 46 => 69 | 139 => 144 | 138 => 143 | n => n, fun | 3 => 1 | 4 => 2 | n => n⟩

theorem lays161 : Go.Proofs.Lays.n161 Tryz.prog lays161_ren := {
  mixed := by kernel_rfl
  f119 := Tryz.func156.trans (congrArg some (by kernel_rfl))
  f137 := Tryz.func110.trans (congrArg some (by kernel_rfl))
  f151 := Tryz.func144.trans (congrArg some (by kernel_rfl))
  f152 := Tryz.func152.trans (congrArg some (by kernel_rfl))
  f161 := Tryz.func116.trans (congrArg some (by kernel_rfl))
  f197 := Tryz.func143.trans (congrArg some (by kernel_rfl))
  f217 := Tryz.func125.trans (congrArg some (by kernel_rfl))
  f224 := Tryz.func157.trans (congrArg some (by kernel_rfl))
  f225 := Tryz.func158.trans (congrArg some (by kernel_rfl))
  f227 := Tryz.func133.trans (congrArg some (by kernel_rfl))
  f228 := Tryz.func142.trans (congrArg some (by kernel_rfl))
  f231 := Tryz.func132.trans (congrArg some (by kernel_rfl))
  f233 := Tryz.func134.trans (congrArg some (by kernel_rfl))
  f235 := Tryz.func135.trans (congrArg some (by kernel_rfl))
  f260 := Tryz.func151.trans (congrArg some (by kernel_rfl))
  f266 := Tryz.func139.trans (congrArg some (by kernel_rfl))
  t0 := Tryz.underlying0
  a0 := Tryz.isAgg0
  z0 := Tryz.sizeOf0
  v0 := Tryz.zeroValue0
  t3 := Tryz.underlying3
  a3 := Tryz.isAgg3
  z3 := Tryz.sizeOf3
  v3 := Tryz.zeroValue3
  t4 := Tryz.underlying4
  a4 := Tryz.isAgg4
  z4 := Tryz.sizeOf4
  v4 := Tryz.zeroValue4
  t5 := Tryz.underlying5
  a5 := Tryz.isAgg5
  z5 := Tryz.sizeOf5
  v5 := Tryz.zeroValue5
  t9 := Tryz.underlying9
  a9 := Tryz.isAgg9
  z9 := Tryz.sizeOf9
  v9 := Tryz.zeroValue9
  t21 := Tryz.underlying21
  a21 := Tryz.isAgg21
  z21 := Tryz.sizeOf21
  v21 := Tryz.zeroValue21
  t46 := Tryz.underlying69
  a46 := Tryz.isAgg69
  z46 := Tryz.sizeOf69
  v46 := Tryz.zeroValue69
  t105 := Tryz.underlying131
  a105 := Tryz.isAgg131
  z105 := Tryz.sizeOf131
  v105 := Tryz.zeroValue131
  t116 := Tryz.underlying117
  a116 := Tryz.isAgg117
  z116 := Tryz.sizeOf117
  t117 := Tryz.underlying118
  a117 := Tryz.isAgg118
  z117 := Tryz.sizeOf118
  v117 := Tryz.zeroValue118
  t119 := Tryz.underlying141
  a119 := Tryz.isAgg141
  z119 := Tryz.sizeOf141
  t124 := Tryz.underlying121
  a124 := Tryz.isAgg121
  z124 := Tryz.sizeOf121
  v124 := Tryz.zeroValue121
  t138 := Tryz.underlying143
  a138 := Tryz.isAgg143
  z138 := Tryz.sizeOf143
  v138 := Tryz.zeroValue143
  t139 := Tryz.underlying144
  a139 := Tryz.isAgg144
  z139 := Tryz.sizeOf144
  v139 := Tryz.zeroValue144
  g3 := by kernel_rfl
  g4 := by kernel_rfl }

open Go.RowKit in
theorem strings_TrimLeft_one (s : ByteArray) (c : UInt8) (hc : c.toNat < 128) (w : World) :
    Calls Tryz.prog 116 #[.string s, .string ⟨#[c]⟩] w fun e w' => e = .returned (.string ⟨(Lib.trimLeftB s.data.toList c).toArray⟩) ∧ w' = w := Any.strings_TrimLeft_one lays161 s c hc w

def lays99_ren : Go.Shelf.Ren := ⟨fun | 99 => 35 | 206 => 58 | n => n, fun | 9 => 9 | 4 => 4 | 3 => 3 | n => n, fun | n => n⟩

theorem lays99 : Go.Proofs.Lays.n99 Tryz.prog lays99_ren := {
  mixed := by kernel_rfl
  f99 := Tryz.func35.trans (congrArg some (by kernel_rfl))
  f206 := Tryz.func58.trans (congrArg some (by kernel_rfl))
  t3 := Tryz.underlying3
  a3 := Tryz.isAgg3
  z3 := Tryz.sizeOf3
  v3 := Tryz.zeroValue3
  t4 := Tryz.underlying4
  a4 := Tryz.isAgg4
  z4 := Tryz.sizeOf4
  v4 := Tryz.zeroValue4
  t9 := Tryz.underlying9
  a9 := Tryz.isAgg9
  z9 := Tryz.sizeOf9
  v9 := Tryz.zeroValue9 }

open Go.RowKit Go.Lib in
theorem strings_HasPrefix (s p : ByteArray) (w : World) :
    Calls Tryz.prog 35 #[.string s, .string p] w fun e w' => e = .returned (.bool (Lib.hasPrefix s.data.toList p.data.toList)) ∧ w' = w := Any.strings_HasPrefix lays99 s p w
def lays131_ren : Go.Shelf.Ren := ⟨fun | 131 => 90 | 126 => 115 | n => n, fun | 5 => 5 | 3 => 3 | 9 => 9 | n => n, fun | n => n⟩

theorem lays131 : Go.Proofs.Lays.n131 Tryz.prog lays131_ren := {
  mixed := by kernel_rfl
  f126 := Tryz.func115.trans (congrArg some (by kernel_rfl))
  f131 := Tryz.func90.trans (congrArg some (by kernel_rfl))
  t3 := Tryz.underlying3
  a3 := Tryz.isAgg3
  z3 := Tryz.sizeOf3
  v3 := Tryz.zeroValue3
  t5 := Tryz.underlying5
  a5 := Tryz.isAgg5
  z5 := Tryz.sizeOf5
  v5 := Tryz.zeroValue5
  t9 := Tryz.underlying9
  a9 := Tryz.isAgg9
  z9 := Tryz.sizeOf9
  v9 := Tryz.zeroValue9 }

theorem bits_LeadingZeros8 (x : Int) (w : World) (h0 : 0 ≤ x) (h1 : x ≤ 255) :
    Calls Tryz.prog 90 #[.int .u8 x] w fun e w' => e = .returned (.int .i64 (8 - (Lib.bitLen x.toNat : Int))) ∧ w' = w := Any.bits_LeadingZeros8 lays131 x w h0 h1

end Go.Proofs.YtjaockmbnjflaaaGreatDoor
